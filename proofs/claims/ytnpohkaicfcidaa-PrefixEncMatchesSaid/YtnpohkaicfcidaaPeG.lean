/- The reference's Find. -/
import Derived.Test.YtnpohkaicfcidaaPeC
import Derived.Handy
set_option linter.unusedVariables false
set_option linter.unusedSimpArgs false
namespace Go.Proofs.Ytnpohkaicfcidaa
open Go.RowKit

theorem codT_get (l : List Int) (j : Nat) (hj : j < 258) (h0 : 0 < l.getD j 0) : (codT l 258).getD j 0 = cdL l j := by
  unfold codT
  rw [row258_get _ _ hj, if_pos ⟨hj, h0⟩]

set_option maxRecDepth 100000 in
set_option maxHeartbeats 4000000 in
theorem rfind_call (l : List Int) (HV : VL l) (c m : Int) (w : World) :
    Calls Try.prog 30 #[.agg (lg l), .int .u32 c, .int .i64 m] w fun e w' => e = .returned (.tuple #[.int .i64 (((fndL l c m 258).getD 0 : Nat) : Int), .bool (fndL l c m 258).isSome]) ∧ Below w.heap.size w w' := by
  have h := HV.lng
  have hz := cdsZ
  have HRC := Lib.hid (fun W => rcodes_yes l HV W)
  have hcd := codT_cds HV 258
  have HGET := Lib.hid (codT_get l)
  have hcs := cl_size hcd
  generalize codT l 258 = D at HRC hcd HGET hcs
  generalize hX : fndL l c m 258 = X
  have HX : Unit → fndL l c m 258 = X := fun _ => hX
  clear hX
  have hg := heap_alloc_last w (.cells (lg l) 23)
  have HB := Lib.hid ((Below.refl w.heap.size w).alloc (Nat.le_refl _) (.cells (lg l) 23))
  go_enter Try.func30, Try.ntmps30
  go_upto_region 1 with fail
  generalize w.alloc (.cells (lg l) 23) = w1 at hg HB ⊢
  go_upto_region 2 with (first
    | (refine wpList_load_row rfl 23 _ rfl w.heap.size rfl 23 (lg l) (0, 0) _ hg Try.underlying23 rfl (lngIk h) ?_)
    | (with_reducible refine (HRC.out _).mono ?_; rintro e w2 ⟨rfl, hb2⟩)
    | (refine wpList_store_row rfl 54 _ _ rfl w2.heap.size (cl D) rfl rfl 54 (cl zC) (heap_alloc_last w2 _) (cdsIk hcd) (by rw [cl_size zC_cds, hcs]) (cl_all _) ?_))
  rw [World.setRow_alloc_new]
  try simp only [Act.put]
  have hby := hb2.alloc (o := .cells (cl D) 54) hb2.size
  have h8 := heap_alloc_last w2 (.cells (cl D) 54)
  have hg3 := heap_on hby hg
  have HB3 := Lib.hid (HB.out.trans (hby.mono HB.out.size))
  obtain ⟨g8, hg8⟩ : ∃ g8, g8 = w2.heap.size := ⟨_, rfl⟩
  rw [← hg8] at h8 ⊢
  clear hg8 hby hb2 hg HB HRC hz
  generalize w2.alloc (.cells (cl D) 54) = w3 at h8 hg3 HB3 ⊢
  have H8 := Lib.hid h8
  have HG := Lib.hid hg3
  clear h8 hg3
  go_upto_region 3 with fail
  go_loopw [10] (fun v wr => ∃ j : Nat, j ≤ 258 ∧ v = .int .i64 j ∧ fndL l c m j = none ∧ wr = w3) (fun v _ => 258 - (intOf v).toNat)
  case atStart => exact ⟨0, by omega, rfl, rfl, rfl⟩
  case round =>
    obtain ⟨j, hj, rfl, hno, rfl⟩ := hrel
    by_cases hlt : j < 258
    · have c1 := lg_cell HG.out h j hlt
      have c2 := cl_cell H8.out hcd j hlt
      have hbd := h.bd j
      have HNO := Lib.hid hno
      clear hno
      by_cases h0 : 0 < l.getD j 0
      · rw [HGET.out j hlt h0] at c2
        have HONE := Lib.hid (fndL_one HV hlt h0)
        have HOTH := Lib.hid (fndL_other l c m j)
        have d0 : decide (0 < l.getD j 0) = true := decide_eq_true h0
        have hcb := HV.cdL j hlt
        generalize cdL l j = x at c2 HONE HOTH hcb
        generalize l.getD j 0 = v at c1 hbd h0 HONE HOTH d0
        by_cases hm : v = m
        · subst hm
          by_cases hc : x = c
          · subst hc
            have HE := Lib.hid (show X = some j from (HX ()).symm.trans HONE.out)
            clear HONE HOTH
            go_wp2_with fail
            go_returns
            exact ⟨by rw [HE.out]; rfl, HB3.out⟩
          · have HN := Lib.hid ((HOTH.out (fun e => hc e.2)).trans HNO.out)
            have hc2 : (x == c) = false := by rw [beq_eq_false_iff_ne]; exact hc
            clear HONE HOTH
            go_wp2_with fail
            exact ⟨⟨j + 1, by omega, by go_num, HN.out, by trivial⟩, by simp [intOf]; omega⟩
        · have HN := Lib.hid ((HOTH.out (fun e => hm e.1)).trans HNO.out)
          have hm2 : (v == m) = false := by rw [beq_eq_false_iff_ne]; exact hm
          clear HONE HOTH
          go_wp2_with fail
          exact ⟨⟨j + 1, by omega, by go_num, HN.out, by trivial⟩, by simp [intOf]; omega⟩
      · have HN := Lib.hid ((fndL_no l c m j h0).trans HNO.out)
        have d0 : decide (0 < l.getD j 0) = false := decide_eq_false h0
        generalize l.getD j 0 = v at c1 hbd h0 d0
        go_wp2_with fail
        exact ⟨⟨j + 1, by omega, by go_num, HN.out, by trivial⟩, by simp [intOf]; omega⟩
    · obtain rfl : j = 258 := by omega
      have HE := Lib.hid ((HX ()).symm.trans hno)
      clear hno
      go_wp2_with fail
      go_returns
      exact ⟨by rw [HE.out]; rfl, HB3.out⟩
end Go.Proofs.Ytnpohkaicfcidaa
