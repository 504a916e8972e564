/- Package prefixenc: Put. -/
import Derived.Test.YtnpohkaicfcidaaPfB
import Derived.Test.YtnpohkaicfcidaaPeS
set_option linter.unusedVariables false
set_option linter.unusedSimpArgs false
namespace Go.Proofs.Ytnpohkaicfcidaa
open Go.RowKit

set_option maxRecDepth 100000 in
set_option maxHeartbeats 1000000 in
theorem pput_nil : PutNilC := by
  intro l h sp n cap w
  have hz := cdsZ
  have hcc := fun W => codes_call l h W
  have hcd := codR_cds h
  have hcs := cl_size hcd
  generalize codR l = D at hcc hcd hcs
  generalize codE l = E at hcc
  have hg := heap_alloc_last w (.cells (lg l) 23)
  have HB := Lib.hid ((Below.refl w.heap.size w).alloc (Nat.le_refl _) (.cells (lg l) 23))
  go_enter Try.func18, Try.ntmps18
  go_upto_region 1 with fail
  generalize w.alloc (.cells (lg l) 23) = w1 at hg HB ⊢
  go_upto_region 2 with (first
    | (refine wpList_load_row rfl 23 _ rfl w.heap.size rfl 23 (lg l) (0, 0) _ hg Try.underlying23 rfl (lngIk h) ?_)
    | (with_reducible refine (hcc _).mono ?_; rintro e w2 ⟨rfl, hb2⟩)
    | (refine wpList_store_row rfl 54 _ _ rfl w2.heap.size (cl D) rfl rfl 54 (cl zC) (heap_alloc_last w2 _) (cdsIk hcd) (by rw [cl_size zC_cds, hcs]) (cl_all _) ?_))
  rw [World.setRow_alloc_new]
  try simp only [Act.put]
  have HB3 := Lib.hid (HB.out.trans ((hb2.alloc (o := .cells (cl D) 54) hb2.size).mono HB.out.size))
  generalize w2.alloc (.cells (cl D) 54) = w3 at HB3 ⊢
  clear hb2 hg HB hcc hz hcd hcs
  go_wp2_with fail
  go_returns
  exact ⟨rfl, HB3.out⟩

set_option maxRecDepth 100000 in
set_option maxHeartbeats 1000000 in
theorem pput_no (l : List Int) (h : Lng l) (sp : Option Addr) (n cap : Nat) (q : List Int) (hq : q.length = n) (hn : n ≤ 10000) (w : World) (p : Nat) (hs : Src w .i64 sp q) (hc : canV l q = false) :
    Calls Try.prog 18 #[.pointer (some ⟨p, 0, none⟩), .agg (lg l), .slice sp n cap] w fun e w' => e = .returned (.int .i64 2) ∧ Below w.heap.size w w' := by
  have hz := cdsZ
  have hcc := fun W => codes_call l h W
  have hcd := codR_cds h
  have hcs := cl_size hcd
  generalize codR l = D at hcc hcd hcs
  have hh := fun W hs => have_call l h sp n cap q hq hn W hs
  have HH := Lib.hid hh
  have HS := Lib.hid hs
  clear hh hs
  have hg := heap_alloc_last w (.cells (lg l) 23)
  have HB := Lib.hid ((Below.refl w.heap.size w).alloc (Nat.le_refl _) (.cells (lg l) 23))
  go_enter Try.func18, Try.ntmps18
  go_upto_region 1 with fail
  generalize w.alloc (.cells (lg l) 23) = w1 at hg HB ⊢
  go_upto_region 2 with (first
    | (refine wpList_load_row rfl 23 _ rfl w.heap.size rfl 23 (lg l) (0, 0) _ hg Try.underlying23 rfl (lngIk h) ?_)
    | (with_reducible refine (hcc _).mono ?_; rintro e w2 ⟨rfl, hb2⟩)
    | (refine wpList_store_row rfl 54 _ _ rfl w2.heap.size (cl D) rfl rfl 54 (cl zC) (heap_alloc_last w2 _) (cdsIk hcd) (by rw [cl_size zC_cds, hcs]) (cl_all _) ?_))
  rw [World.setRow_alloc_new]
  try simp only [Act.put]
  have hb3 := hb2.alloc (o := .cells (cl D) 54) hb2.size
  have hg3 := heap_on hb3 hg
  have HB3 := Lib.hid (HB.out.trans (hb3.mono HB.out.size))
  generalize w2.alloc (.cells (cl D) 54) = w3 at hg3 HB3 ⊢
  clear hb2 hb3 hg HB hcc hz hcd hcs
  by_cases hks : ks l ≤ 32768
  · have hall : q.all (okS l) = false := by
      unfold canV at hc
      rw [decide_eq_true hks, Bool.true_and] at hc
      exact hc
    have hE : codE l = 0 := if_pos hks
    rw [hall] at HH
    rw [hE]
    clear hc hall hks hE
    go_wp2_with (first
      | (refine wpList_load_row_g 6 false rfl 22 rfl _ rfl rfl 23 _ rfl w.heap.size rfl 23 (lg l) (0, 0) _ hg3 Try.underlying23 rfl (lngIk h) ?_)
      | (with_reducible refine (HH.out _ (HS.out.below HB3.out)).mono ?_
         rintro e w4 ⟨rfl, hb4⟩
         have HB4 := Lib.hid (HB3.out.trans (hb4.mono HB3.out.size))
         clear hb4))
    go_returns
    exact ⟨rfl, HB4.out⟩
  · have hE : codE l = 2 := if_neg hks
    rw [hE]
    clear hc hks hE HH
    go_wp2_with fail
    go_returns
    exact ⟨rfl, HB3.out⟩
end Go.Proofs.Ytnpohkaicfcidaa
