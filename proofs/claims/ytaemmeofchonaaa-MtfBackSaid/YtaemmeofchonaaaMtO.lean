/- Law MtfMoves out of the contracts (genmt.py). -/
import Derived.Test.YtaemmeofchonaaaMtC
import Derived.Test.YtaemmeofchonaaaFrm2
import Derived.Deep.WholeRow
set_option linter.unusedVariables false
set_option linter.unusedSimpArgs false
namespace Go.Proofs.Ytaemmeofchonaaa
open Go.RowKit

set_option maxRecDepth 100000 in
set_option maxHeartbeats 4000000 in
theorem moves_call (CP : MPutC) (CT : MTakC) (CV : MValC) (CW : MWkC) (l : List Int) (h : Lst l) (c : Int) (hc : 0 ≤ c ∧ c ≤ 255) (w : World) :
    Calls Try.prog 5 #[.agg (ll l), .int .u8 c] w fun e w' => e = .returned (.bool true) ∧ Below w.heap.size w w' := by
  have HWK := Lib.hid (fun W => CW W)
  have hrv := fun W => rvalid_call l h W
  have hz := lstZ
  have hz0 := ll_size zS_lst
  have hx0 := Lib.hid (fun W => CP l h c hc W)
  have hvl := fun W => CV l h W
  have hvx := fun X (hX : Lst X) W => CV X hX W
  have htk := fun (p : Nat) (hp : p < 256) => CT l h (p : Int) (WalkArith.wf_i64 ⟨by omega, by omega⟩)
  have HV := Lib.hid (fun e : l.Nodup => (Vld.iff h).2 e)
  have HNOD := Lib.hid (show ∀ D, D = decide l.Nodup → (D = true ↔ l.Nodup) from fun D e => by rw [e, decide_eq_true_iff])
  obtain ⟨D, hD⟩ : ∃ D, D = decide l.Nodup := ⟨_, rfl⟩
  have HD := Lib.hid (HNOD.out D hD)
  rw [← hD] at hrv hvl
  clear hD HNOD
  have HGL := Lib.hid (heap_alloc_last w (.cells (ll l) 23))
  have HB := Lib.hid ((Below.refl w.heap.size w).alloc (Nat.le_refl _) (.cells (ll l) 23))
  cases hDe : D with
  | false =>
    rw [hDe] at hrv hvl
    clear hz hx0 hvx htk HV HD hDe
    go_enter Try.func5, Try.ntmps5
    go_upto_region 1 with fail
    generalize w.alloc (.cells (ll l) 23) = w1 at HGL HB ⊢
    have hgl := HGL.out
    go_upto_region 2 with (first
      | (refine wpList_load_row rfl 23 _ rfl w.heap.size rfl 23 (ll l) (0, 0) _ hgl Try.underlying23 rfl (lstIk h) ?_)
      | ((with_reducible refine (hrv _).mono ?_)
         rintro e w2 ⟨rfl, hb2⟩
         have HGL2 := Lib.hid (heap_on hb2 HGL.out)
         have HB2 := Lib.hid (HB.out.trans (hb2.mono HB.out.size))
         clear hb2))
    clear hgl HGL HB hrv
    have hgl := HGL2.out
    go_wp2_with (first
      | (refine wpList_load_row rfl 23 _ rfl w.heap.size rfl 23 (ll l) (0, 0) _ hgl Try.underlying23 rfl (lstIk h) ?_)
      | ((with_reducible refine (hvl _).mono ?_)
         rintro e w3 ⟨rfl, hb2⟩
         have HB3 := Lib.hid (HB2.out.trans (hb2.mono HB2.out.size))
         clear hb2)
      | ((with_reducible refine (HWK.out _).mono ?_); rintro e z ⟨rfl, hb3⟩))
    go_ret
    exact ⟨rfl, HB3.out.trans (hb3.mono HB3.out.size)⟩
  | true =>
  have hv := HV.out (HD.out.1 hDe)
  rw [hDe] at hrv
  obtain ⟨p, hp, hpos, hlp⟩ := hv.pos hc
  have hXV := hv.take hp
  rw [ptV_some hpos] at hx0
  have htk := htk p hp
  rw [show tkR l (p : Int) = (tkV l p, l.getD p 0, true) by unfold tkR; rw [if_pos (by omega), Int.toNat_natCast], hlp] at htk
  have HLOW := Lib.hid (fun i (hi : i < p) => tkV_low l (p := p) (by rw [h.1]; exact hp) hi)
  have HHIGH := Lib.hid (fun i (hi : p < i) => tkV_high l (p := p) (by rw [h.1]; exact hp) hi)
  have hfr := tkV_front l p
  rw [hlp] at hfr
  have hXL := tkV_lst h hp
  have hvx := hvx _ hXL
  rw [decide_eq_true hXV.nodup] at hvx
  obtain ⟨X, hX⟩ : ∃ X, X = tkV l p := ⟨_, rfl⟩
  rw [← hX] at hx0 htk HLOW HHIGH hfr hXL hvx
  have HTK := Lib.hid htk
  have HVX := Lib.hid hvx
  have hsX := ll_size hXL
  clear hX hvl hXV hpos hv HV HD hDe htk hvx
  go_enter Try.func5, Try.ntmps5
  go_upto_region 1 with fail
  generalize w.alloc (.cells (ll l) 23) = w1 at HGL HB ⊢
  have hgl := HGL.out
  go_upto_region 3 with (first
    | (refine wpList_load_row rfl 23 _ rfl w.heap.size rfl 23 (ll l) (0, 0) _ hgl Try.underlying23 rfl (lstIk h) ?_)
    | ((with_reducible refine (hrv _).mono ?_)
       rintro e w2 ⟨rfl, hb2⟩
       have HGL2 := Lib.hid (heap_on hb2 HGL.out)
       have HB2 := Lib.hid (HB.out.trans (hb2.mono HB.out.size))
       clear hb2))
  clear hgl HGL HB hrv
  have hin := HGL2.out
  go_upto_region 4 with (first
    | (refine wpList_load_row rfl 23 _ rfl w.heap.size rfl 23 (ll l) (0, 0) _ hin Try.underlying23 rfl (lstIk h) ?_)
    | ((with_reducible refine (hx0.out _).mono ?_); rintro e x1 ⟨rfl, hb⟩)
    | (refine wpList_store_row rfl 23 _ _ rfl x1.heap.size (ll X) rfl rfl 23 (ll zS) (heap_alloc_last x1 _) (lstIk hXL) (by rw [hz0, hsX]) (ll_all _) ?_))
  rw [World.setRow_alloc_new]
  try simp only [Act.put]
  have hby := hb.alloc (o := .cells (ll X) 23) hb.size
  have HGL2N := Lib.hid (heap_on hby HGL2.out)
  have Hg1 := Lib.hid (heap_alloc_last x1 (.cells (ll X) 23))
  have HB2N := Lib.hid (HB2.out.trans (hby.mono HB2.out.size))
  replace HGL2 := HGL2N
  clear HGL2N
  replace HB2 := HB2N
  clear HB2N
  obtain ⟨g1, hg1⟩ : ∃ g1, g1 = x1.heap.size := ⟨_, rfl⟩
  rw [← hg1] at Hg1 ⊢
  clear hg1 hb hby hin
  generalize x1.alloc (.cells (ll X) 23) = y1 at HGL2 Hg1 HB2 ⊢
  have c0 := ll_cell Hg1.out hXL 0 (by decide)
  have cp := ll_cell HGL2.out h p hp
  rw [hfr] at c0
  rw [hlp] at cp
  have h1 := Hg1.out
  have d1 : decide ((p : Int) < 0) = false := decide_eq_false (by omega)
  have d2 : decide ((255 : Int) < (p : Int)) = false := decide_eq_false (by omega)
  have d3 : decide (255 < p) = false := decide_eq_false (by omega)
  go_upto_region 6 with (first
    | (refine wpList_load_row_g 19 false rfl 46 rfl _ rfl rfl 23 _ rfl g1 rfl 23 (ll X) (0, 0) _ h1 Try.underlying23 rfl (lstIk hXL) ?_)
    | ((with_reducible refine (HVX.out _).mono ?_)
       rintro e w3 ⟨rfl, hb2⟩
       have HGL3 := Lib.hid (heap_on hb2 HGL2.out)
       have Hg3 := Lib.hid (heap_on hb2 Hg1.out)
       have HB3 := Lib.hid (HB2.out.trans (hb2.mono HB2.out.size))
       clear hb2))
  clear c0 cp h1 d1 d2 d3 HGL2 Hg1 HB2 HVX
  go_wp2_with fail
  go_loopw [7] (fun v wr => ∃ i : Nat, i ≤ 255 ∧ v = .int .i64 ((i + 1 : Nat) : Int) ∧ wr.heap[w.heap.size]? = some (.cells (ll l) 23 (0, 0)) ∧ wr.heap[g1]? = some (.cells (ll X) 23 (0, 0)) ∧ Below w.heap.size w wr) (fun v _ => 256 - (intOf v).toNat)
  case atStart => exact ⟨0, by omega, rfl, HGL3.out, Hg3.out, HB3.out⟩
  case round =>
    obtain ⟨i, hi, rfl, hgl, hgx, hb⟩ := hrel
    clear HGL3 Hg3 HB3
    have HGL := Lib.hid hgl
    have HGX := Lib.hid hgx
    have HB := Lib.hid hb
    have hw1 : IntKind.i64.wrap ((i : Int) + 1 - 1) = (i : Int) := by rw [IntKind.wrap_i64]; omega
    have hw2 : IntKind.i64.wrap ((i : Int) + 1 + 1) = (i : Int) + 1 + 1 := by rw [IntKind.wrap_i64]; omega
    clear hb
    by_cases hlt : i < 255
    · by_cases hip : i < p
      · have cx := ll_cell hgx hXL (i + 1) (by omega)
        have cl := ll_cell hgl h i (by omega)
        rw [HLOW.out i hip] at cx
        have d1 : decide (((i + 1 : Nat) : Int) ≤ (p : Int)) = true := decide_eq_true (by omega)
        have d2 : decide (i + 1 ≤ p) = true := decide_eq_true (by omega)
        have d3 : decide ((i : Int) + 1 ≤ (p : Int)) = true := decide_eq_true (by omega)
        have hne : (l.getD i 0 != l.getD i 0) = false := by simp
        generalize l.getD i 0 = V at cx cl hne
        clear hgx hgl
        go_upto_region 12 with fail
        go_quiet (fail)
        go_wp2_with fail
        exact ⟨⟨i + 1, by omega, by go_num, HGL.out, HGX.out, HB.out.drewN _⟩, by simp [intOf]; omega⟩
      · have cx := ll_cell hgx hXL (i + 1) (by omega)
        have cl := ll_cell hgl h (i + 1) (by omega)
        rw [HHIGH.out (i + 1) (by omega)] at cx
        have d1 : decide (((i + 1 : Nat) : Int) ≤ (p : Int)) = false := decide_eq_false (by omega)
        have d2 : decide (i + 1 ≤ p) = false := decide_eq_false (by omega)
        have d3 : decide ((i : Int) + 1 ≤ (p : Int)) = false := decide_eq_false (by omega)
        have hne : (l.getD (i + 1) 0 != l.getD (i + 1) 0) = false := by simp
        generalize l.getD (i + 1) 0 = V at cx cl hne
        clear hgx hgl
        go_upto_region 12 with fail
        go_quiet (fail)
        go_wp2_with fail
        exact ⟨⟨i + 1, by omega, by go_num, HGL.out, HGX.out, HB.out.drewN _⟩, by simp [intOf]; omega⟩
    · obtain rfl : i = 255 := by omega
      clear hgx hgl
      go_upto_region 14 with fail
      have hin := HGL.out
      go_upto_region 15 with (first
        | (refine wpList_load_row rfl 23 _ rfl w.heap.size rfl 23 (ll l) (0, 0) _ hin Try.underlying23 rfl (lstIk h) ?_)
        | ((with_reducible refine (HTK.out _).mono ?_); rintro e x2 ⟨rfl, hb⟩)
        | (refine wpList_store_row rfl 23 _ _ rfl x2.heap.size (ll X) rfl rfl 23 (ll zS) (heap_alloc_last x2 _) (lstIk hXL) (by rw [hz0, hsX]) (ll_all _) ?_))
      rw [World.setRow_alloc_new]
      try simp only [Act.put]
      have hby := hb.alloc (o := .cells (ll X) 23) hb.size
      have HGLN := Lib.hid (heap_on hby HGL.out)
      have HGXN := Lib.hid (heap_on hby HGX.out)
      have Hg2 := Lib.hid (heap_alloc_last x2 (.cells (ll X) 23))
      have HBN := Lib.hid (HB.out.trans (hby.mono HB.out.size))
      replace HGL := HGLN
      clear HGLN
      replace HGX := HGXN
      clear HGXN
      replace HB := HBN
      clear HBN
      obtain ⟨g2, hg2⟩ : ∃ g2, g2 = x2.heap.size := ⟨_, rfl⟩
      rw [← hg2] at Hg2 ⊢
      clear hg2 hb hby hin
      generalize x2.alloc (.cells (ll X) 23) = y2 at HGL HGX Hg2 HB ⊢
      have h2 := Hg2.out
      have h1 := HGX.out
      have heq := fun W => run_eqi_lst W hXL hXL
      rw [decide_eq_true rfl] at heq
      go_wp2_with (first
        | (refine wpList_load_row_g 6 true rfl 81 rfl _ rfl rfl 23 _ rfl g2 rfl 23 (ll X) (0, 0) _ h2 Try.underlying23 rfl (lstIk hXL) ?_)
        | (refine wpList_load_row_g 6 true rfl 81 rfl _ rfl rfl 23 _ rfl g1 rfl 23 (ll X) (0, 0) _ h1 Try.underlying23 rfl (lstIk hXL) ?_)
        | ((with_reducible refine (HWK.out _).mono ?_); rintro e z ⟨rfl, hb3⟩))
      go_ret
      exact ⟨rfl, HB.out.trans (hb3.mono HB.out.size)⟩
end Go.Proofs.Ytaemmeofchonaaa
