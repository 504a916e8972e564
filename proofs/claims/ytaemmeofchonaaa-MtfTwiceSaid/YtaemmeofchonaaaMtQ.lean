/- Law MtfPlaces out of the contracts. -/
import Derived.Test.YtaemmeofchonaaaMtB
set_option linter.unusedVariables false
set_option linter.unusedSimpArgs false
namespace Go.Proofs.Ytaemmeofchonaaa
open Go.RowKit

/-- How many of them are greater than c and below e. -/
def gtN (acc : List Int) (c e : Int) : Nat := (acc.filter fun d => decide (c < d) && decide (d < e)).length
theorem gtN_start (acc : List Int) (c : Int) : gtN acc c (c + 1) = 0 := by
  unfold gtN
  rw [List.length_eq_zero_iff, List.filter_eq_nil_iff]
  intro d _ h
  rw [Bool.and_eq_true, decide_eq_true_iff, decide_eq_true_iff] at h
  omega
theorem gtN_step {c e : Int} (h : c < e) : ∀ (acc : List Int), acc.Nodup → gtN acc c (e + 1) = gtN acc c e + if e ∈ acc then 1 else 0
  | [], _ => by simp [gtN]
  | x :: t, hn => by
    have hn2 := List.nodup_cons.1 hn
    have ih := gtN_step h t hn2.2
    unfold gtN at ih ⊢
    by_cases hx : x = e
    · subst hx
      rw [List.filter_cons_of_pos (by rw [Bool.and_eq_true, decide_eq_true_iff, decide_eq_true_iff]; omega), List.filter_cons_of_neg (by rw [Bool.and_eq_true, decide_eq_true_iff, decide_eq_true_iff]; omega), List.length_cons, ih, if_neg hn2.1, if_pos (by simp)]
    · have hm : e ∈ x :: t ↔ e ∈ t := by
        constructor
        · intro hh
          rcases List.mem_cons.1 hh with e2 | e2
          · exact absurd e2.symm hx
          · exact e2
        · exact List.mem_cons_of_mem x
      by_cases hc : c < x ∧ x < e
      · rw [List.filter_cons_of_pos (by rw [Bool.and_eq_true, decide_eq_true_iff, decide_eq_true_iff]; omega), List.filter_cons_of_pos (by rw [Bool.and_eq_true, decide_eq_true_iff, decide_eq_true_iff]; omega), List.length_cons, List.length_cons, ih]
        by_cases he : e ∈ t
        · rw [if_pos he, if_pos (hm.2 he)]
        · rw [if_neg he, if_neg (fun h2 => he (hm.1 h2))]
      · rw [List.filter_cons_of_neg (by rw [Bool.and_eq_true, decide_eq_true_iff, decide_eq_true_iff]; omega), List.filter_cons_of_neg (by rw [Bool.and_eq_true, decide_eq_true_iff, decide_eq_true_iff]; omega), ih]
        by_cases he : e ∈ t
        · rw [if_pos he, if_pos (hm.2 he)]
        · rw [if_neg he, if_neg (fun h2 => he (hm.1 h2))]
theorem gtN_all {acc : List Int} (c : Int) (h : ∀ d ∈ acc, 0 ≤ d ∧ d ≤ 255) : gtN acc c 256 = (acc.filter fun d => decide (c < d)).length := by
  unfold gtN
  congr 1
  apply List.filter_congr
  intro d hd
  have := h d hd
  rw [decide_eq_true (show d < 256 by omega), Bool.and_true]
theorem gtN_le (acc : List Int) (c e : Int) : gtN acc c e ≤ acc.length := List.length_filter_le _ _
/-- Which bytes have been seen. -/
def bl (acc : List Int) : Array Value := ((List.range 256).map fun j : Nat => Value.bool (decide ((j : Int) ∈ acc))).toArray
theorem bl_get (acc : List Int) (j : Nat) (hj : j < 256) : (bl acc)[j]? = some (.bool (decide ((j : Int) ∈ acc))) := by
  unfold bl
  rw [List.getElem?_toArray, List.getElem?_map, List.getElem?_range hj]
  rfl
theorem bl_size (acc : List Int) : (bl acc).size = 256 := by simp [bl]
theorem bl_set (acc : List Int) (j : Nat) (hj : j < 256) : (bl acc).setIfInBounds j (.bool true) = bl ((j : Int) :: acc) := by
  apply Array.ext_getElem?
  intro i
  rw [Array.getElem?_setIfInBounds, bl_size]
  by_cases e : j = i
  · subst e
    rw [if_pos rfl, if_pos hj, bl_get _ j hj]
    simp
  · rw [if_neg e]
    by_cases hi : i < 256
    · rw [bl_get _ i hi, bl_get _ i hi]
      congr 2
      rw [decide_eq_decide, List.mem_cons]
      constructor
      · exact .inr
      · rintro (h | h)
        · omega
        · exact h
    · rw [Array.getElem?_eq_none (by rw [bl_size]; omega), Array.getElem?_eq_none (by rw [bl_size]; omega)]
theorem bl_cell {w : World} {g : Nat} {t : TypeId} {fr : Nat × Nat} {acc : List Int} (hg : w.heap[g]? = some (.cells (bl acc) t fr)) (j : Nat) (hj : j < 256) : w.cell? ⟨g, j, none⟩ = some (.bool (decide ((j : Int) ∈ acc))) := by
  rw [cell_of_row w g _ _ t fr hg, bl_get acc j hj]
theorem blZ (w : World) : (zeroValue 37).run Try.prog w = .ok (.agg (bl [])) w := by
  have h : (Try.prog.info? 37).map (fun i => (i.zero, i.size)) = some (some (.agg (bl [])), 256) := by kernel_rfl
  exact (zero_of_info h).1 w

set_option maxRecDepth 100000 in
set_option maxHeartbeats 4000000 in
theorem places_call (CF : MFthC) (CW : MWkC) (sp : Option Addr) (n cap : Nat) (q : List Int) (hq : q.length = n) (hn : n ≤ 9223372036854775807) (hy : Byts q) (w : World) (hs : Src w .u8 sp q) :
    Calls Try.prog 6 #[.slice sp n cap] w fun e w' => e = .returned (.bool true) ∧ Below w.heap.size w w' := by
  have HWK := Lib.hid (fun W => CW W)
  by_cases hbig : 200 < n
  · have d1 : decide ((200 : Int) < (n : Int)) = true := decide_eq_true (by omega)
    clear hs hq hy
    go_enter Try.func6, Try.ntmps6
    go_wp2_with (with_reducible refine (HWK.out _).mono ?_; rintro e z ⟨rfl, hb⟩)
    go_ret
    exact ⟨rfl, hb⟩
  have d1 : decide ((200 : Int) < (n : Int)) = false := decide_eq_false (by omega)
  have d2 : decide (200 < n) = false := decide_eq_false (by omega)
  have HPLC := Lib.hid (fun i (hi : i < q.length) => fw_place hy i hi)
  have hPL : (fwV idL q).length = n := by rw [fwV_len, hq]
  have hPY : Byts (fwV idL q) := fwV_byte Vld.id q hy
  have hf1 := CF sp n cap q hq hy (by omega) w hs
  obtain ⟨P, hP⟩ : ∃ P, P = fwV idL q := ⟨_, rfl⟩
  rw [← hP] at HPLC hPL hPY hf1
  have HS := Lib.hid hs
  have HQL := Lib.hid hq
  have HPL := Lib.hid hPL
  have HF1 := Lib.hid hf1
  have HYQ := Lib.hid hy
  have HYP := Lib.hid hPY
  have HZB := Lib.hid (fun W => blZ W)
  clear hP hPY hPL hs hf1 hq hy
  go_enter Try.func6, Try.ntmps6
  go_upto_region 4 with ((with_reducible refine HF1.out.mono ?_); rintro e w1 ⟨A, cA, rfl, hnb⟩)
  have HA := Lib.hid hnb.own.src
  have HB := Lib.hid hnb.bel
  clear hnb d1 d2 HF1
  go_wp2_with fail
  go_loopw [4] (fun v wr => ∃ i : Nat, i ≤ n ∧ v = .int .i64 i ∧ Below w1.heap.size w1 wr) (fun v _ => n - (intOf v).toNat)
  case atStart => exact ⟨0, by omega, rfl, Below.refl _ _⟩
  case round =>
    obtain ⟨i, hi, rfl, hb⟩ := hrel
    have HBR := Lib.hid hb
    clear hb
    by_cases hlt : i < n
    · obtain ⟨wo, hwo⟩ : ∃ wo, wo = wr := ⟨_, rfl⟩
      subst hwo
      have hiq : i < q.length := by rw [HQL.out]; exact hlt
      have hplc := HPLC.out i hiq
      have hcb := HYQ.out.getD i
      obtain ⟨C, hC⟩ : ∃ C, C = q.getD i 0 := ⟨_, rfl⟩
      rw [← hC] at hplc hcb
      have HC := Lib.hid hC
      have hpb := HYP.out.getD i
      obtain ⟨PV, hPV⟩ : ∃ PV, PV = P.getD i 0 := ⟨_, rfl⟩
      rw [← hPV] at hplc hpb
      have HPV := Lib.hid hPV
      have HRES := Lib.hid hplc
      clear hC hPV hplc
      obtain ⟨gs, os, hse, _⟩ := HS.out.get hiq
      have hw0 : IntKind.i64.wrap ((i : Int) - 1) = (i : Int) - 1 := by rw [IntKind.wrap_i64]; omega
      have hzb := HZB.out
      have HCELL := Lib.hid (show ∀ (W : World) (j : Nat), Below w1.heap.size w1 W → j < n → W.cell? ⟨gs, os + j, none⟩ = some (.int .u8 (q.getD j 0)) from fun W j hW hj => by
        obtain ⟨g2, o2, e, hh⟩ := (HS.out.below (HB.out.trans (hW.mono HB.out.size))).get (show j < q.length by rw [HQL.out]; exact hj)
        rw [hse] at e
        injection e with e
        injection e with e1 e2
        subst e1 e2
        exact hh)
      subst hse
      obtain ⟨ga, oa, hae, _⟩ := HA.out.get (show i < P.length by rw [HPL.out]; exact hlt)
      have HPC := Lib.hid (show ∀ (W : World), Below w1.heap.size w1 W → W.cell? ⟨ga, oa + i, none⟩ = some (.int .u8 PV) from fun W hW => by
        obtain ⟨g2, o2, e, hh⟩ := (HA.out.below hW).get (show i < P.length by rw [HPL.out]; exact hlt)
        rw [hae] at e
        injection e with e
        injection e with e1 e2
        subst e1 e2
        rw [HPV.out]
        exact hh)
      rw [hae]
      clear hae
      go_upto_region 12 with fail
      clear hzb hw0
      have hg5 := heap_alloc_last wo (.cells (bl []) 37)
      have HB5 := Lib.hid (HBR.out.alloc HBR.out.size (.cells (bl []) 37))
      have HG5L := Lib.hid (show w1.heap.size ≤ wo.heap.size from HBR.out.size)
      obtain ⟨g5, hg5e⟩ : ∃ g5, g5 = wo.heap.size := ⟨_, rfl⟩
      rw [← hg5e] at hg5 HG5L ⊢
      clear hg5e
      generalize wo.alloc (.cells (bl []) 37) = w5 at hg5 HB5 ⊢
      have HG5 := Lib.hid hg5
      clear hg5
      go_loopw [6, 7] (fun s k wr => ∃ (j : Nat) (acc : List Int), j ≤ i ∧ k = .int .i64 ((j : Int) - 1) ∧ s = .int .i64 (acc.length : Int) ∧ acc.Nodup ∧ (∀ d ∈ acc, 0 ≤ d ∧ d ≤ 255) ∧ acc.length ≤ i - j ∧ plc C (q.take i).reverse [] = plc C (q.take j).reverse acc ∧ wr.heap[g5]? = some (.cells (bl acc) 37 (0, 0)) ∧ Below w1.heap.size w1 wr) (fun _ k _ => (intOf k + 1).toNat)
      case atStart => exact ⟨i, [], Nat.le_refl _, by first | rfl | go_num, rfl, List.nodup_nil, fun d hd => (by cases hd), Nat.zero_le _, rfl, HG5.out, HB5.out⟩
      case round =>
        obtain ⟨j, acc, hj, rfl, rfl, hnd, hby, hal, hpl, hbl, hb⟩ := hrel
        have HND := Lib.hid hnd
        have HBY := Lib.hid hby
        have HPL2 := Lib.hid hpl
        have HBL := Lib.hid hbl
        have HBJ := Lib.hid hb
        clear hnd hby hpl hb
        have cI := HCELL.out wr i HBJ.out hlt
        rw [← HC.out] at cI
        have hal2 : acc.length ≤ 200 := by omega
        cases j with
        | zero =>
          have hpz := HPL2.out
          rw [List.take_zero, List.reverse_nil] at hpz
          have hpz2 : plc C [] acc = C.toNat + (acc.filter fun d => decide (C < d)).length := rfl
          rw [hpz2, ← gtN_all C HBY.out] at hpz
          have HPZ := Lib.hid (show PV = C + (gtN acc C 256 : Int) by rw [HRES.out, hpz]; omega)
          clear hpz hpz2
          rw [show (((0 : Nat) : Int) - 1) = -1 by rfl]
          have hdm : decide ((0 : Int) ≤ -1) = false := by decide
          go_upto_region 12 with fail
          go_quiet (fail)
          clear hbl cI
          go_upto_region 18 with fail
          have cI := HCELL.out (wr.drewN nq) i (HBJ.out.drewN nq) hlt
          rw [← HC.out] at cI
          have HBL6 := Lib.hid (show (wr.drewN nq).heap[g5]? = _ from HBL.out)
          have HBJ6 := Lib.hid (HBJ.out.drewN nq)
          generalize wr.drewN nq = w6 at cI HBL6 HBJ6 ⊢
          obtain ⟨cn, hcn⟩ : ∃ cn : Nat, C = (cn : Int) := ⟨C.toNat, by omega⟩
          have HCN := Lib.hid hcn
          clear hcn
          go_wp2_with fail
          go_loopw [6, 8] (fun s v wx => ∃ e : Nat, cn + 1 ≤ e ∧ e ≤ 256 ∧ v = .int .i64 e ∧ s = .int .i64 (C + (gtN acc C e : Int)) ∧ wx.heap[g5]? = some (.cells (bl acc) 37 (0, 0)) ∧ Below w1.heap.size w1 wx) (fun _ v _ => 256 - (intOf v).toNat)
          case atStart =>
            refine ⟨cn + 1, Nat.le_refl _, by have := HCN.out; omega, ?_, ?_, HBL6.out, HBJ6.out⟩
            · rw [HCN.out]
              go_num
            · have h0 := gtN_start acc C
              have h1 : ((cn + 1 : Nat) : Int) = C + 1 := by rw [HCN.out]; omega
              rw [h1, h0]
              go_num
          case round =>
            obtain ⟨e, he1, he2, rfl, rfl, hbl, hb⟩ := hrel
            have HBL7 := Lib.hid hbl
            have HBJ7 := Lib.hid hb
            have hgl := gtN_le acc C e
            clear hb
            by_cases hlt2 : e < 256
            · have hce := bl_cell hbl e hlt2
              have HST := Lib.hid (gtN_step (c := C) (e := (e : Int)) (by rw [HCN.out]; omega) acc HND.out)
              have hee : ((e : Int) + 1) = ((e + 1 : Nat) : Int) := by omega
              rw [hee] at HST
              clear hee
              obtain ⟨G, hG⟩ : ∃ G, G = gtN acc C e := ⟨_, rfl⟩
              rw [← hG] at HST hgl ⊢
              have HGG := Lib.hid hG
              clear hG hbl
              by_cases hme : (e : Int) ∈ acc
              · have HST2 := Lib.hid (show C + (gtN acc C ((e + 1 : Nat) : Int) : Int) = C + (G : Int) + 1 by rw [HST.out, if_pos hme]; omega)
                rw [decide_eq_true hme] at hce
                clear hme HST
                go_wp2_with fail
                exact ⟨⟨e + 1, by omega, by omega, by go_num, by rw [HST2.out], HBL7.out, HBJ7.out⟩, by simp [intOf]; omega⟩
              · have HST2 := Lib.hid (show C + (gtN acc C ((e + 1 : Nat) : Int) : Int) = C + (G : Int) by rw [HST.out, if_neg hme]; omega)
                rw [decide_eq_false hme] at hce
                clear hme HST
                go_wp2_with fail
                exact ⟨⟨e + 1, by omega, by omega, by go_num, by rw [HST2.out], HBL7.out, HBJ7.out⟩, by simp [intOf]; omega⟩
            · obtain rfl : e = 256 := by omega
              have cP := HPC.out _ HBJ7.out
              have HPZ2 : C + (gtN acc C ((256 : Nat) : Int) : Int) = PV := HPZ.out.symm
              rw [HPZ2]
              have hpn : (PV != PV) = false := by simp
              clear hbl HPZ2 hgl
              go_wp2_with fail
              exact ⟨⟨i + 1, by omega, by go_num, HBJ7.out⟩, by simp [intOf]; omega⟩
        | succ j =>
          have hjn : j < n := by omega
          have hjq : j < q.length := by rw [HQL.out]; exact hjn
          have cJ := HCELL.out wr j HBJ.out hjn
          have hxb := HYQ.out.getD j
          have hplx := HPL2.out
          rw [take_snocD q j hjq, List.reverse_append, List.reverse_singleton, List.singleton_append, plc_cons] at hplx
          have hwj : IntKind.i64.wrap ((j : Int) - 1) = (j : Int) - 1 := by rw [IntKind.wrap_i64]; omega
          rw [show (((j + 1 : Nat) : Int) - 1) = (j : Int) by omega]
          generalize q.getD j 0 = X at cJ hxb hplx
          by_cases hxc : X = C
          · rw [if_pos hxc] at hplx
            have HLEN := Lib.hid (show PV = (acc.length : Int) by rw [HRES.out, hplx])
            subst hxc
            clear hplx hbl hwj HPL2
            have hxx : (X != X) = false := by simp
            go_upto_region 12 with fail
            go_quiet (fail)
            go_upto_region 24 with fail
            have cP := HPC.out (wr.drewN nq) (HBJ.out.drewN nq)
            have HBE := Lib.hid (HBJ.out.drewN nq)
            rw [← HLEN.out]
            have hpn : (PV != PV) = false := by simp
            clear cI cJ
            generalize wr.drewN nq = w6 at cP HBE ⊢
            go_wp2_with fail
            exact ⟨⟨i + 1, by omega, by go_num, HBE.out⟩, by simp [intOf]; omega⟩
          · rw [if_neg hxc] at hplx
            obtain ⟨xn, hxn⟩ : ∃ xn : Nat, X = (xn : Int) := ⟨X.toNat, by omega⟩
            have hxn2 : xn < 256 := by omega
            have hxx : (X != C) = true := bne_iff_ne.2 hxc
            have cX := bl_cell hbl xn hxn2
            have fX := frozen_of_row wr g5 xn _ _ hbl
            have HSET := Lib.hid (heap_setCell_same wr g5 xn _ _ (.bool true) hbl)
            rw [bl_set acc xn hxn2] at HSET
            rw [← hxn] at cX HSET
            subst hxn
            clear hxc hbl
            by_cases hme : (xn : Int) ∈ acc
            · rw [if_pos hme] at hplx
              have HPX := Lib.hid hplx
              rw [decide_eq_true hme] at cX
              clear hplx hme HSET HPL2 fX
              go_upto_region 12 with fail
              go_quiet (fail)
              have HBE := Lib.hid (HBJ.out.drewN nq)
              have HBLE := Lib.hid (show (wr.drewN nq).heap[g5]? = _ from HBL.out)
              have cJ2 : (wr.drewN nq).cell? ⟨gs, os + j, none⟩ = _ := cJ
              have cX2 : (wr.drewN nq).cell? ⟨g5, xn, none⟩ = _ := cX
              clear cI cJ cX
              generalize wr.drewN nq = w6 at HBE HBLE cJ2 cX2 ⊢
              go_wp2_with fail
              exact ⟨⟨j, acc, by omega, by go_num, rfl, HND.out, HBY.out, by omega, HPX.out, HBLE.out, HBE.out⟩, by simp [intOf]⟩
            · rw [if_neg hme] at hplx
              have HPX := Lib.hid hplx
              have HND2 := Lib.hid (List.nodup_cons.2 ⟨hme, HND.out⟩)
              have HBY2 := Lib.hid (show ∀ d ∈ (xn : Int) :: acc, 0 ≤ d ∧ d ≤ 255 from fun d hd => by
                rcases List.mem_cons.1 hd with e | e
                · rw [e]; exact hxb
                · exact HBY.out d e)
              rw [decide_eq_false hme] at cX
              clear hplx hme HPL2
              go_upto_region 12 with fail
              go_quiet (fail)
              have HBE := Lib.hid ((HBJ.out.drewN nq).setCell (p := ⟨g5, xn, none⟩) HG5L.out (.bool true))
              have HBLE := Lib.hid (show ((wr.drewN nq).setCell ⟨g5, xn, none⟩ (.bool true)).heap[g5]? = _ from HSET.out)
              have cJ2 : (wr.drewN nq).cell? ⟨gs, os + j, none⟩ = _ := cJ
              have cX2 : (wr.drewN nq).cell? ⟨g5, xn, none⟩ = _ := cX
              have fX2 : (wr.drewN nq).frozen? ⟨g5, xn, none⟩ = _ := fX
              clear cI cJ cX fX HSET
              generalize wr.drewN nq = w6 at HBE HBLE cJ2 cX2 fX2 ⊢
              go_wp2_with fail
              exact ⟨⟨j, (xn : Int) :: acc, by omega, by go_num, by go_num, HND2.out, HBY2.out, by simp; omega, HPX.out, HBLE.out, HBE.out⟩, by simp [intOf]⟩
    · obtain rfl : i = n := by omega
      go_wp2_with ((with_reducible refine (HWK.out _).mono ?_); rintro e z ⟨rfl, hb3⟩)
      go_ret
      exact ⟨rfl, (HB.out.trans (HBR.out.mono HB.out.size)).trans (hb3.mono (Nat.le_trans HB.out.size HBR.out.size))⟩
end Go.Proofs.Ytaemmeofchonaaa
