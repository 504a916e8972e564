/- Law MtfTwice out of the contracts (genmt.py). -/
import Derived.Test.YtaemmeofchonaaaMtC
import Derived.Test.YtaemmeofchonaaaFrm2
import Derived.Deep.WholeRow
set_option linter.unusedVariables false
set_option linter.unusedSimpArgs false
namespace Go.Proofs.Ytaemmeofchonaaa
open Go.RowKit

set_option maxRecDepth 100000 in
set_option maxHeartbeats 4000000 in
theorem twice_call (CP : MPutC) (CT : MTakC) (CW : MWkC) (l : List Int) (h : Lst l) (a b : Int) (ha : 0 ≤ a ∧ a ≤ 255) (hb : 0 ≤ b ∧ b ≤ 255) (w : World) :
    Calls Try.prog 7 #[.agg (ll l), .int .u8 a, .int .u8 b] w fun e w' => e = .returned (.bool true) ∧ Below w.heap.size w w' := by
  have HWK := Lib.hid (fun W => CW W)
  have hrv := fun W => rvalid_call l h W
  have hz := lstZ
  have hz0 := ll_size zS_lst
  have HV := Lib.hid (fun e : l.Nodup => (Vld.iff h).2 e)
  have hx0 := Lib.hid (fun W => CP l h a ha W)
  have HX := Lib.hid (ptV_lst h a)
  have HAG := Lib.hid (fun e : Vld l => put_again e ha)
  have HFR := Lib.hid (fun e : Vld l => e.front ha)
  have HTW := Lib.hid (fun (e : Vld l) (hne : a ≠ b) => two_front e ha hb hne)
  obtain ⟨X, px, hX⟩ : ∃ X px, ptV l a = (X, px) := ⟨_, _, rfl⟩
  rw [hX] at hx0 HX HAG HFR HTW
  have hXL := HX.out
  have hy0 := Lib.hid (fun W => CP X hXL a ha W)
  have hz1 := Lib.hid (fun W => CP X hXL b hb W)
  have HZ := Lib.hid (ptV_lst hXL b)
  have HFZ := Lib.hid (fun e : Vld X => e.front hb)
  obtain ⟨Z, pz, hZ⟩ : ∃ Z pz, ptV X b = (Z, pz) := ⟨_, _, rfl⟩
  rw [hZ] at hz1 HZ HTW HFZ
  have hZL := HZ.out
  have ht0 := Lib.hid (fun W => CT Z hZL 0 (by decide) W)
  have htk : tkR Z 0 = (Z, Z.getD 0 0, true) := by
    unfold tkR
    rw [if_pos (by decide), show (0 : Int).toNat = 0 from rfl, tkV_zero (by rw [hZL.1]; decide)]
  rw [htk] at ht0
  have hsX := ll_size hXL
  have hsZ := ll_size hZL
  clear hX hZ htk HX HZ
  have HNOD := Lib.hid (show ∀ D, D = decide l.Nodup → (D = true ↔ l.Nodup) from fun D e => by rw [e, decide_eq_true_iff])
  obtain ⟨D, hD⟩ : ∃ D, D = decide l.Nodup := ⟨_, rfl⟩
  have HD := Lib.hid (HNOD.out D hD)
  rw [← hD] at hrv
  clear hD HNOD
  have HGL := Lib.hid (heap_alloc_last w (.cells (ll l) 23))
  have HB := Lib.hid ((Below.refl w.heap.size w).alloc (Nat.le_refl _) (.cells (ll l) 23))
  go_enter Try.func7, Try.ntmps7
  go_upto_region 1 with fail
  generalize w.alloc (.cells (ll l) 23) = w1 at HGL HB ⊢
  have hgl := HGL.out
  cases D with
  | false =>
    clear hz hx0 hy0 hz1 ht0
    go_wp2_with (first
      | (refine wpList_load_row rfl 23 _ rfl w.heap.size rfl 23 (ll l) (0, 0) _ hgl Try.underlying23 rfl (lstIk h) ?_)
      | ((with_reducible refine (hrv _).mono ?_)
         rintro e w2 ⟨rfl, hb2⟩
         have HB2 := Lib.hid (HB.out.trans (hb2.mono HB.out.size))
         clear hb2)
      | ((with_reducible refine (HWK.out _).mono ?_); rintro e z ⟨rfl, hb3⟩))
    go_ret
    exact ⟨rfl, HB2.out.trans (hb3.mono HB2.out.size)⟩
  | true =>
  have hv := HV.out (HD.out.1 rfl)
  have hag := HAG.out hv
  have hfr := HFR.out hv
  have hvX : Vld X := hfr.2
  have hfz := HFZ.out hvX
  have hz00 : Z.getD 0 0 = b := hfz.1
  have HZ1 := Lib.hid (fun hne : a ≠ b => HTW.out hv hne)
  rw [hag] at hy0
  rw [hz00] at ht0
  clear HV HAG HFR HTW HFZ hag hfr hvX hfz hv HD
  go_upto_region 3 with (first
    | (refine wpList_load_row rfl 23 _ rfl w.heap.size rfl 23 (ll l) (0, 0) _ hgl Try.underlying23 rfl (lstIk h) ?_)
    | ((with_reducible refine (hrv _).mono ?_)
       rintro e w2 ⟨rfl, hb2⟩
       have HGL2 := Lib.hid (heap_on hb2 HGL.out)
       have HB2 := Lib.hid (HB.out.trans (hb2.mono HB.out.size))
       clear hb2))
  clear hgl HGL HB hrv
  have hin := HGL2.out
  go_upto_region 4 with (first
    | (refine wpList_load_row rfl 23 _ rfl w.heap.size rfl 23 (ll l) (0, 0) _ hin Try.underlying23 rfl (lstIk h) ?_)
    | ((with_reducible refine (hx0.out _).mono ?_); rintro e x1 ⟨rfl, hb⟩)
    | (refine wpList_store_row rfl 23 _ _ rfl x1.heap.size (ll X) rfl rfl 23 (ll zS) (heap_alloc_last x1 _) (lstIk hXL) (by rw [hz0, hsX]) (ll_all _) ?_))
  rw [World.setRow_alloc_new]
  try simp only [Act.put]
  have hby := hb.alloc (o := .cells (ll X) 23) hb.size
  have HGL2N := Lib.hid (heap_on hby HGL2.out)
  have Hg1 := Lib.hid (heap_alloc_last x1 (.cells (ll X) 23))
  have HB2N := Lib.hid (HB2.out.trans (hby.mono HB2.out.size))
  replace HGL2 := HGL2N
  clear HGL2N
  replace HB2 := HB2N
  clear HB2N
  obtain ⟨g1, hg1⟩ : ∃ g1, g1 = x1.heap.size := ⟨_, rfl⟩
  rw [← hg1] at Hg1 ⊢
  clear hg1 hb hby hin
  generalize x1.alloc (.cells (ll X) 23) = y1 at HGL2 Hg1 HB2 ⊢
  have hin := Hg1.out
  go_upto_region 5 with (first
    | (refine wpList_load_row rfl 23 _ rfl g1 rfl 23 (ll X) (0, 0) _ hin Try.underlying23 rfl (lstIk hXL) ?_)
    | ((with_reducible refine (hy0.out _).mono ?_); rintro e x2 ⟨rfl, hb⟩)
    | (refine wpList_store_row rfl 23 _ _ rfl x2.heap.size (ll X) rfl rfl 23 (ll zS) (heap_alloc_last x2 _) (lstIk hXL) (by rw [hz0, hsX]) (ll_all _) ?_))
  rw [World.setRow_alloc_new]
  try simp only [Act.put]
  have hby := hb.alloc (o := .cells (ll X) 23) hb.size
  have HGL2N := Lib.hid (heap_on hby HGL2.out)
  have Hg1N := Lib.hid (heap_on hby Hg1.out)
  have Hg2 := Lib.hid (heap_alloc_last x2 (.cells (ll X) 23))
  have HB2N := Lib.hid (HB2.out.trans (hby.mono HB2.out.size))
  replace HGL2 := HGL2N
  clear HGL2N
  replace Hg1 := Hg1N
  clear Hg1N
  replace HB2 := HB2N
  clear HB2N
  obtain ⟨g2, hg2⟩ : ∃ g2, g2 = x2.heap.size := ⟨_, rfl⟩
  rw [← hg2] at Hg2 ⊢
  clear hg2 hb hby hin
  generalize x2.alloc (.cells (ll X) 23) = y2 at HGL2 Hg1 Hg2 HB2 ⊢
  have hin := Hg1.out
  go_upto_region 6 with (first
    | (refine wpList_load_row rfl 23 _ rfl g1 rfl 23 (ll X) (0, 0) _ hin Try.underlying23 rfl (lstIk hXL) ?_)
    | ((with_reducible refine (hz1.out _).mono ?_); rintro e x3 ⟨rfl, hb⟩)
    | (refine wpList_store_row rfl 23 _ _ rfl x3.heap.size (ll Z) rfl rfl 23 (ll zS) (heap_alloc_last x3 _) (lstIk hZL) (by rw [hz0, hsZ]) (ll_all _) ?_))
  rw [World.setRow_alloc_new]
  try simp only [Act.put]
  have hby := hb.alloc (o := .cells (ll Z) 23) hb.size
  have HGL2N := Lib.hid (heap_on hby HGL2.out)
  have Hg1N := Lib.hid (heap_on hby Hg1.out)
  have Hg2N := Lib.hid (heap_on hby Hg2.out)
  have Hg3 := Lib.hid (heap_alloc_last x3 (.cells (ll Z) 23))
  have HB2N := Lib.hid (HB2.out.trans (hby.mono HB2.out.size))
  replace HGL2 := HGL2N
  clear HGL2N
  replace Hg1 := Hg1N
  clear Hg1N
  replace Hg2 := Hg2N
  clear Hg2N
  replace HB2 := HB2N
  clear HB2N
  obtain ⟨g3, hg3⟩ : ∃ g3, g3 = x3.heap.size := ⟨_, rfl⟩
  rw [← hg3] at Hg3 ⊢
  clear hg3 hb hby hin
  generalize x3.alloc (.cells (ll Z) 23) = y3 at HGL2 Hg1 Hg2 Hg3 HB2 ⊢
  have hin := Hg3.out
  go_upto_region 7 with (first
    | (refine wpList_load_row rfl 23 _ rfl g3 rfl 23 (ll Z) (0, 0) _ hin Try.underlying23 rfl (lstIk hZL) ?_)
    | ((with_reducible refine (ht0.out _).mono ?_); rintro e x4 ⟨rfl, hb⟩)
    | (refine wpList_store_row rfl 23 _ _ rfl x4.heap.size (ll Z) rfl rfl 23 (ll zS) (heap_alloc_last x4 _) (lstIk hZL) (by rw [hz0, hsZ]) (ll_all _) ?_))
  rw [World.setRow_alloc_new]
  try simp only [Act.put]
  have hby := hb.alloc (o := .cells (ll Z) 23) hb.size
  have HGL2N := Lib.hid (heap_on hby HGL2.out)
  have Hg1N := Lib.hid (heap_on hby Hg1.out)
  have Hg2N := Lib.hid (heap_on hby Hg2.out)
  have Hg3N := Lib.hid (heap_on hby Hg3.out)
  have Hg4 := Lib.hid (heap_alloc_last x4 (.cells (ll Z) 23))
  have HB2N := Lib.hid (HB2.out.trans (hby.mono HB2.out.size))
  replace HGL2 := HGL2N
  clear HGL2N
  replace Hg1 := Hg1N
  clear Hg1N
  replace Hg2 := Hg2N
  clear Hg2N
  replace Hg3 := Hg3N
  clear Hg3N
  replace HB2 := HB2N
  clear HB2N
  obtain ⟨g4, hg4⟩ : ∃ g4, g4 = x4.heap.size := ⟨_, rfl⟩
  rw [← hg4] at Hg4 ⊢
  clear hg4 hb hby hin
  generalize x4.alloc (.cells (ll Z) 23) = y4 at HGL2 Hg1 Hg2 Hg3 Hg4 HB2 ⊢
  clear hz hx0 hy0 hz1 ht0
  have e1 := Hg1.out
  have e2 := Hg2.out
  have e3 := Hg3.out
  have e4 := Hg4.out
  have hqX := fun W => run_eqi_lst W hXL hXL
  rw [decide_eq_true rfl] at hqX
  have hqZ := fun W => run_eqi_lst W hZL hZL
  rw [decide_eq_true rfl] at hqZ
  have c0 := ll_cell e3 hZL 0 (by decide)
  rw [hz00] at c0
  by_cases hab : a = b
  · subst hab
    clear HZ1
    go_wp2_with (first
      | (refine wpList_load_row rfl 23 _ rfl g2 rfl 23 (ll X) (0, 0) _ e2 Try.underlying23 rfl (lstIk hXL) ?_)
      | (refine wpList_load_row rfl 23 _ rfl g1 rfl 23 (ll X) (0, 0) _ e1 Try.underlying23 rfl (lstIk hXL) ?_)
      | (refine wpList_load_row_g 32 true rfl 76 rfl _ rfl rfl 23 _ rfl g4 rfl 23 (ll Z) (0, 0) _ e4 Try.underlying23 rfl (lstIk hZL) ?_)
      | (refine wpList_load_row_g 32 true rfl 76 rfl _ rfl rfl 23 _ rfl g3 rfl 23 (ll Z) (0, 0) _ e3 Try.underlying23 rfl (lstIk hZL) ?_)
      | ((with_reducible refine (HWK.out _).mono ?_); rintro e z ⟨rfl, hb3⟩))
    go_ret
    exact ⟨rfl, HB2.out.trans (hb3.mono HB2.out.size)⟩
  · have hz11 := HZ1.out hab
    have c1 := ll_cell e3 hZL 1 (by decide)
    rw [hz11] at c1
    have hbe : (a == b) = false := beq_false_of_ne hab
    clear HZ1 hz11
    go_wp2_with (first
      | (refine wpList_load_row rfl 23 _ rfl g2 rfl 23 (ll X) (0, 0) _ e2 Try.underlying23 rfl (lstIk hXL) ?_)
      | (refine wpList_load_row rfl 23 _ rfl g1 rfl 23 (ll X) (0, 0) _ e1 Try.underlying23 rfl (lstIk hXL) ?_)
      | (refine wpList_load_row_g 32 true rfl 76 rfl _ rfl rfl 23 _ rfl g4 rfl 23 (ll Z) (0, 0) _ e4 Try.underlying23 rfl (lstIk hZL) ?_)
      | (refine wpList_load_row_g 32 true rfl 76 rfl _ rfl rfl 23 _ rfl g3 rfl 23 (ll Z) (0, 0) _ e3 Try.underlying23 rfl (lstIk hZL) ?_)
      | ((with_reducible refine (HWK.out _).mono ?_); rintro e z ⟨rfl, hb3⟩))
    go_ret
    exact ⟨rfl, HB2.out.trans (hb3.mono HB2.out.size)⟩
end Go.Proofs.Ytaemmeofchonaaa
