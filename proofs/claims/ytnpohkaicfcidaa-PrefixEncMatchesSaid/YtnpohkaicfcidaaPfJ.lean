/- Package prefixenc: Read, whole. -/
import Derived.Test.YtnpohkaicfcidaaPfI
import Derived.Test.YtnpohkaicfcidaaPeL
set_option linter.unusedVariables false
set_option linter.unusedSimpArgs false
namespace Go.Proofs.Ytnpohkaicfcidaa
open Go.RowKit

set_option maxRecDepth 100000 in
set_option maxHeartbeats 2000000 in
theorem read_no (l : List Int) (h : Lng l) (sp : Option Addr) (n cap : Nat) (hn : n ≤ 1000) (M : Int) (hbad : ¬ (ks l ≤ 32768 ∧ 0 ≤ M ∧ M ≤ 8 * (n : Int))) (w : World) :
    Calls Try.prog 12 #[.agg (lg l), .slice sp n cap, .int .i64 M] w fun e w' => e = .returned (.tuple #[.slice none 0 0, .int .i64 2]) ∧ Below w.heap.size w w' := by
  have hz := cdsZ
  have hcc := fun W => codes_call l h W
  have hcd := codR_cds h
  have hcs := cl_size hcd
  generalize codR l = D at hcc hcd hcs
  have hg := heap_alloc_last w (.cells (lg l) 23)
  have HB := Lib.hid ((Below.refl w.heap.size w).alloc (Nat.le_refl _) (.cells (lg l) 23))
  go_enter Try.func12, Try.ntmps12
  go_upto_region 1 with fail
  generalize w.alloc (.cells (lg l) 23) = w1 at hg HB ⊢
  go_upto_region 2 with (first
    | (refine wpList_load_row rfl 23 _ rfl w.heap.size rfl 23 (lg l) (0, 0) _ hg Try.underlying23 rfl (lngIk h) ?_)
    | (with_reducible refine (hcc _).mono ?_; rintro e w2 ⟨rfl, hb2⟩)
    | (refine wpList_store_row rfl 54 _ _ rfl w2.heap.size (cl D) rfl rfl 54 (cl zC) (heap_alloc_last w2 _) (cdsIk hcd) (by rw [cl_size zC_cds, hcs]) (cl_all _) ?_))
  rw [World.setRow_alloc_new]
  try simp only [Act.put]
  have HB3 := Lib.hid (HB.out.trans ((hb2.alloc (o := .cells (cl D) 54) hb2.size).mono HB.out.size))
  generalize w2.alloc (.cells (cl D) 54) = w3 at HB3 ⊢
  clear hb2 hg HB hcc hz hcd hcs
  by_cases hv : ks l ≤ 32768
  · have hE : codE l = 0 := if_pos hv
    rw [hE]
    by_cases h0 : M < 0
    · have d1 : decide (M < 0) = true := decide_eq_true h0
      clear hbad hv hE
      go_wp2_with fail
      go_returns
      exact ⟨rfl, HB3.out⟩
    · have d1 : decide (M < 0) = false := decide_eq_false h0
      have d2 : decide (8 * (n : Int) < M) = true := decide_eq_true (by omega)
      clear hbad hv hE
      go_wp2_with fail
      go_returns
      exact ⟨rfl, HB3.out⟩
  · have hE : codE l = 2 := if_neg hv
    rw [hE]
    clear hbad hv hE
    go_wp2_with fail
    go_returns
    exact ⟨rfl, HB3.out⟩
theorem read_call : ReadC := by
  intro l h sp n cap bl hl hby hn M hM w hs
  by_cases hg : ks l ≤ 32768 ∧ 0 ≤ M ∧ M ≤ 8 * (n : Int)
  · have e : rdR l bl M = rdS l 0 0 [] ((bitsB bl).take M.toNat) := by unfold rdR; rw [hl, if_pos hg]
    rw [e]
    obtain ⟨hv, h0, h1⟩ := hg
    obtain ⟨m, rfl⟩ : ∃ m : Nat, M = (m : Int) := ⟨M.toNat, by omega⟩
    rw [Int.toNat_natCast]
    exact read_yes l ⟨h, hv⟩ sp n cap bl hl hby hn m (by omega) w hs
  · have e : rdR l bl M = none := by unfold rdR; rw [hl, if_neg hg]
    rw [e]
    exact (read_no l h sp n cap hn M hg w).mono fun e w' ⟨h1, h2⟩ => ⟨none, 0, h1, OwnS.nil _ _ _, (fun g e => by cases e), h2⟩
end Go.Proofs.Ytnpohkaicfcidaa
