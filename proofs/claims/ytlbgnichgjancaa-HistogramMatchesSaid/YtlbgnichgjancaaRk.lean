/- Ranks' closure, the swap of its row. -/
import Derived.Test.YtlbgnichgjancaaSo
import Derived.Test.YtlbgnichgjancaaRow
import Derived.Lib.ReflectliteSwap
import Derived.Laws.Externs
import Derived.Deep.RegionHeld3
import Derived.BigRegion
import Derived.BigQuiet
set_option linter.unusedVariables false
set_option linter.unusedSimpArgs false
namespace Go.Proofs.Ytlbgnichgjancaa
open Go.RowKit Go.Sort Go.Lib

/-- The order of a ranking: (symbol, frequency). -/
def rlt (p q : Int × Int) : Bool := if p.2 = q.2 then decide (p.1 < q.1) else decide (p.2 < q.2)
/-- The row, and the variable that the closure has captured. -/
def RI (g n pv : Nat) (d : Array (Int × Int)) (w : World) : Prop := Row g n d w ∧ w.cell? ⟨pv, 0, none⟩ = some (.slice (some ⟨g, 0, none⟩) n n) ∧ pv ≠ g
theorem RI.sm {g n pv : Nat} {d : Array (Int × Int)} {w w' : World} (h : RI g n pv d w) (k : Sm w w') : RI g n pv d w' := ⟨h.1.ch k (fun e => e), Ch.cell k h.2.1 (fun e => e), h.2.2⟩
theorem RI.swap {g n pv : Nat} {d d' : Array (Int × Int)} {w w' : World} (h : RI g n pv d w) (k : On g w w') (hr : Row g n d' w') : RI g n pv d' w' := ⟨hr, Ch.cell k h.2.1 (fun e => h.2.2 e), h.2.2⟩

noncomputable def rkT : TypeInfo := (Try.prog.info? 43).get (by kernel_rfl)
noncomputable def rkE : TypeInfo := (Try.prog.info? 45).get (by kernel_rfl)
theorem rkS : rkE.size = 2 := by kernel_rfl

theorem row_swap (g n c : Nat) (d : Array (Int × Int)) (w : World) (h : Row g n d w) (i j : Nat) (hi : i < n) (hj : j < n) :
    ∃ w', (callFunc 39 (#[.int .i64 i, .int .i64 j] ++ #[.slice (some ⟨g, 0, none⟩) n c, typeHandle Try.prog 45])).run Try.prog w = .ok (.value (.tuple #[])) w' ∧ On g w w' ∧ Row g n (swp d i j) w' := by
  have hr := run_swap_cells (P := Try.prog) false 45 rkE (by kernel_rfl) (fun _ => by kernel_rfl) g 0 n c i j hi hj [.int .i64 d[i]!.1, .int .i64 d[i]!.2] [.int .i64 d[j]!.1, .int .i64 d[j]!.2] (by rw [rkS]; rfl) (by rw [rkS]; rfl)
    (fun v hv => by simp only [List.mem_cons, List.not_mem_nil, or_false] at hv; rcases hv with rfl | rfl <;> rfl) (fun v hv => by simp only [List.mem_cons, List.not_mem_nil, or_false] at hv; rcases hv with rfl | rfl <;> rfl) w
    (fun k v hk => by
      rw [rkS, Nat.zero_add]
      match k with
      | 0 => simp at hk; subst hk; exact h.c0 i hi
      | 1 => simp at hk; subst hk; exact h.c1 i hi
      | k + 2 => simp at hk)
    (fun k v hk => by
      rw [rkS, Nat.zero_add]
      match k with
      | 0 => simp at hk; subst hk; exact h.c0 j hj
      | 1 => simp at hk; subst hk; exact h.c1 j hj
      | k + 2 => simp at hk)
    (fun k hk => h.f _) (fun k hk => h.f _)
  rw [rkS, Nat.zero_add, Nat.zero_add] at hr
  have hx := fun args W => run_callFunc_extern Try.func39 (by kernel_rfl) (by kernel_rfl) (by kernel_rfl) (e := Extern.ReflectliteSwapper.swap false) (by kernel_rfl) args W
  refine ⟨_, by rw [hx, show (#[Value.int .i64 (i : Int), Value.int .i64 (j : Int)] ++ #[Value.slice (some ⟨g, 0, none⟩) n c, typeHandle Try.prog 45]) = #[.int .i64 i, .int .i64 j, .slice (some ⟨g, 0, none⟩) n c, typeHandle Try.prog 45] from rfl, hr]; rfl, ?_, ?_⟩
  · show Ch (fun k => k = g) w ((((w.setCell ⟨g, i * 2, none⟩ _).setCell ⟨g, i * 2 + 1, none⟩ _).setCell ⟨g, j * 2, none⟩ _).setCell ⟨g, j * 2 + 1, none⟩ _)
    exact ((((Ch.refl (fun k => k = g) w).setCell ⟨g, i * 2, none⟩ _ (.inl rfl)).setCell ⟨g, i * 2 + 1, none⟩ _ (.inl rfl)).setCell ⟨g, j * 2, none⟩ _ (.inl rfl)).setCell ⟨g, j * 2 + 1, none⟩ _ (.inl rfl)
  · exact (h.set i hi _ _).set j hj _ _

set_option maxRecDepth 100000 in
set_option maxHeartbeats 1000000 in
theorem less_call (g n pv : Nat) (d : Array (Int × Int)) (w : World) (h : RI g n pv d w) (i j : Nat) (hi : i < n) (hj : j < n) :
    Calls Try.prog 25 (#[.int .i64 i, .int .i64 j] ++ #[.pointer (some ⟨pv, 0, none⟩)]) w fun e w' => e = .returned (.bool (rlt d[i]! d[j]!)) ∧ Sm w w' := by
  have hI := Lib.hid h
  have p0 := h.2.1
  have i0 := h.1.c0 i hi
  have i1 := h.1.c1 i hi
  have j0 := h.1.c0 j hj
  have j1 := h.1.c1 j hj
  have HR : RowKit.Hid (rlt d[i]! d[j]! = if d[i]!.2 = d[j]!.2 then decide (d[i]!.1 < d[j]!.1) else decide (d[i]!.2 < d[j]!.2)) := Lib.hid rfl
  generalize rlt d[i]! d[j]! = R at HR ⊢
  generalize d[i]!.1 = A at i0 HR
  generalize d[i]!.2 = B at i1 HR
  generalize d[j]!.1 = C at j0 HR
  generalize d[j]!.2 = D at j1 HR
  clear h
  show Calls Try.prog 25 #[.int .i64 i, .int .i64 j, .pointer (some ⟨pv, 0, none⟩)] w _
  go_enter Try.func25, Try.ntmps25
  go_upto_region 1 with fail
  go_cut [6, 7] (fun s6 s7 wx => ∃ q6 q7, s6 = .pointer (some ⟨q6, 0, none⟩) ∧ s7 = .pointer (some ⟨q7, 0, none⟩) ∧ TwoI wx q6 A B ∧ TwoI wx q7 C D ∧ Below w.heap.size w wx)
  case first =>
    go_region_held3 (fun W => W.cell? ⟨pv, 0, none⟩ = some (.slice (some ⟨g, 0, none⟩) n n) ∧ W.cell? ⟨g, i * 2, none⟩ = some (.int .i64 A) ∧ W.cell? ⟨g, i * 2 + 1, none⟩ = some (.int .i64 B) ∧ W.cell? ⟨g, j * 2, none⟩ = some (.int .i64 C) ∧ W.cell? ⟨g, j * 2 + 1, none⟩ = some (.int .i64 D)) (go_keep) ((fail))
    · go_wp2
      go_meet
      exact ⟨_, _, rfl, rfl, ⟨_, heap_alloc2_old w _ _⟩, ⟨_, heap_alloc2_new w _ _⟩, (((Below.refl _ w).alloc (Nat.le_refl _) _).alloc (by simp) _).drew⟩
    · go_wp2
      go_meet
      exact ⟨_, _, rfl, rfl, ⟨_, heap_alloc2_new w _ _⟩, ⟨_, heap_alloc2_old w _ _⟩, (((Below.refl _ w).alloc (Nat.le_refl _) _).alloc (by simp) _).drew⟩
  case rest =>
    obtain ⟨q6, q7, rfl, rfl, h6, h7, hbc⟩ := hcut
    have a0 := h6.c0
    have a1 := h6.c1
    have b0 := h7.c0
    have b1 := h7.c1
    have HB := Lib.hid hbc
    clear h6 h7 hbc
    by_cases hBD : B = D
    · have hd : (B == D) = true := by simp [hBD]
      go_wp2_with fail
      go_ret
      exact ⟨by rw [HR.out, if_pos hBD]; rfl, .of HB.out⟩
    · have hd : (B == D) = false := by simp [hBD]
      go_wp2_with fail
      go_ret
      exact ⟨by rw [HR.out, if_neg hBD]; rfl, .of HB.out⟩
end Go.Proofs.Ytlbgnichgjancaa
