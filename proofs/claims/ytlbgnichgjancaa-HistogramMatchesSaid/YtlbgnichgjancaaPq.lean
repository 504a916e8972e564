/- pdqsort_func at no more than 12 elements. -/
import Derived.Test.YtlbgnichgjancaaSl
set_option linter.unusedVariables false
set_option linter.unusedSimpArgs false
namespace Go.Proofs.Ytlbgnichgjancaa
open Go.RowKit Go.Sort

section
variable {α : Type} [Inhabited α] {lt : α → α → Bool} {g : Nat} {lb : Array Value} {sf : Nat} {sb : Array Value} {blk n : Nat} {I : Array α → World → Prop}
set_option maxRecDepth 100000 in
set_option maxHeartbeats 2000000 in
theorem pdq_few (E : Env lt g lb sf sb blk n I) (a b : Nat) (lim : Int) (d : Array α) (w : World) (hI : I d w) (hab : a ≤ b) (hb : b ≤ n) (h12 : b - a ≤ 12) :
    Calls Try.prog 30 #[.agg #[.func (.func g) #[] lb, .func (.func sf) #[] sb], .int .i64 a, .int .i64 b, .int .i64 lim] w fun e w' => e = .returned (.tuple #[]) ∧ On blk w w' ∧ I (Sort.insertionSort lt d a b) w' := by
  have hS := St.start E hI (.func (.func g) #[] lb) (.func (.func sf) #[] sb) 60
  have hn := E.small
  have c0 := hS.c0
  have c1 := hS.c1
  have hin := insertionSort_call E a b d (w.alloc (.cells #[.func (.func g) #[] lb, .func (.func sf) #[] sb] 60)) hS.inv hab hb
  have HS := Lib.hid hS
  clear hS
  go_enter Try.func30, Try.ntmps30
  go_wp2_with fail
  go_loopw [1, 2, 3, 8, 9] (fun v1 v2 v3 v8 v9 wr => v1 = .int .i64 a ∧ v2 = .int .i64 b ∧ v3 = .int .i64 lim ∧ v8 = .bool true ∧ v9 = .bool true ∧ wr = w.alloc (.cells #[.func (.func g) #[] lb, .func (.func sf) #[] sb] 60)) (fun _ _ _ _ _ _ => 0)
  case atStart => exact ⟨rfl, rfl, rfl, rfl, rfl, rfl⟩
  case round =>
    obtain ⟨rfl, rfl, rfl, rfl, rfl, rfl⟩ := hrel
    go_wp2_with (refine hin.mono ?_; rintro e w2 ⟨rfl, hon, hI2⟩)
    (try simp only [Exit.inBlock, Exit.then]); refine bodyPost_ret (results_none rfl _ _ _) rfl ?_
    exact ⟨rfl, HS.out.on.trans hon, hI2⟩
end

theorem rlt_iff (p q : Int × Int) : rlt p q = true ↔ p.2 < q.2 ∨ p.2 = q.2 ∧ p.1 < q.1 := by
  unfold rlt
  split <;> rw [decide_eq_true_eq] <;> omega
theorem rlt_no (p q : Int × Int) : rlt p q = false ↔ q.2 < p.2 ∨ p.2 = q.2 ∧ q.1 ≤ p.1 := by
  unfold rlt
  split <;> rw [decide_eq_false_iff_not] <;> omega
theorem swo_rlt : SWO rlt where
  irrefl := fun x => (rlt_no x x).2 (by omega)
  trans := fun x y z h k => by rw [rlt_iff] at h k ⊢; omega
  ntrans := fun x y z h k => by rw [rlt_no] at h k ⊢; omega
theorem RI.env {g n pv : Nat} (hn : n ≤ 1000000) (d0 : Array (Int × Int)) (w0 : World) (h0 : RI g n pv d0 w0) :
    Env rlt 25 #[.pointer (some ⟨pv, 0, none⟩)] (rkF n) (rkB g n) g n (RI g n pv) where
  eg := enters_of Try.func25 (by kernel_rfl) rfl
  keep := fun d w w' h k => h.sm k
  here := fun d w h => ⟨h.1.lt, h.1.1⟩
  less := fun d w i j h hi hj => less_call g n pv d w h i j hi hj
  swap := fun d w i j h2 h hi hj => by
    have e1 : rkF n = 39 := by unfold rkF; rw [if_neg (by omega), if_neg (by omega)]
    have e2 : rkB g n = #[.slice (some ⟨g, 0, none⟩) n n, typeHandle Try.prog 45] := by unfold rkB; rw [if_neg (by omega)]
    rw [e1, e2]
    obtain ⟨w', h1, h3, h4⟩ := row_swap g n n d w h.1 i j hi hj
    exact ⟨w', h1, h3, h.swap h3 h4⟩
  small := by omega
theorem pdqOk_few (n : Nat) (h12 : n ≤ 12) : PdqOk n := by
  intro g pv d w h
  refine (pdq_few (h.env (by omega)) 0 n _ d w h (Nat.zero_le _) (Nat.le_refl _) (by omega)).mono ?_
  rintro e w' ⟨rfl, h1, h2⟩
  have hp := pdq_sorts rlt swo_rlt d 0 n 0 true true (Nat.zero_le _) (by rw [h.1.1]; exact Nat.le_refl _) (Or.inl rfl)
  have e1 : pdq rlt d 0 n 0 true true = Sort.insertionSort rlt d 0 n := by
    rw [pdq, if_pos (by omega)]
  rw [e1] at hp
  exact ⟨rfl, _, h1, h2, hp.1, hp.2⟩
end Go.Proofs.Ytlbgnichgjancaa
