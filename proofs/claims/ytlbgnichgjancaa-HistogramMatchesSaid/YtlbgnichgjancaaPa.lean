/- Ranks at any tally: pdqsort_func sorts the row, however long. -/
import Derived.Test.YtlbgnichgjancaaRkM
import Derived.Test.YtlbgnichgjancaaSoF
set_option linter.unusedVariables false
set_option linter.unusedSimpArgs false
namespace Go.Proofs.Ytlbgnichgjancaa
open Go.RowKit Go.Sort

theorem pdqC_all {α : Type} [Inhabited α] {lt : α → α → Bool} {g : Nat} {lb : Array Value} {sf : Nat} {sb : Array Value} {blk n : Nat} {I : Array α → World → Prop} {B : Nat} (EB : EnvB lt g lb sf sb blk n I B) (hO : SWO lt) :
    ∀ (m a b lim : Nat), b - a ≤ m → a ≤ b → b ≤ n → lim < 4611686018427387904 → PdqC lt g lb sf sb blk n I a b lim := by
  intro m
  induction m with
  | zero => exact fun a b lim h h1 h2 h3 => pdq_round EB hO a b lim h1 h2 h3 (fun a' b' lim' hlt => by omega)
  | succ m ih => exact fun a b lim h h1 h2 h3 => pdq_round EB hO a b lim h1 h2 h3 (fun a' b' lim' hlt k1 k2 k3 => ih a' b' lim' (by omega) k1 k2 k3)

/-- The row, and that it is older than the block B. -/
def RIB (g n pv B : Nat) (d : Array (Int × Int)) (w : World) : Prop := RI g n pv d w ∧ B ≤ w.heap.size
theorem RIB.envB {g n pv B : Nat} (hn : n ≤ 1000000) (hg : g < B) (hp : pv < B) :
    EnvB rlt 25 #[.pointer (some ⟨pv, 0, none⟩)] (rkF n) (rkB g n) g n (RIB g n pv B) B where
  env := {
    eg := enters_of Try.func25 (by kernel_rfl) rfl
    keep := fun d w w' h k => ⟨h.1.sm k, Nat.le_trans h.2 k.size⟩
    here := fun d w h => ⟨h.1.1.lt, h.1.1.1⟩
    less := fun d w i j h hi hj => less_call g n pv d w h.1 i j hi hj
    swap := fun d w i j h2 h hi hj => by
      have e1 : rkF n = 39 := by unfold rkF; rw [if_neg (by omega), if_neg (by omega)]
      have e2 : rkB g n = #[.slice (some ⟨g, 0, none⟩) n n, typeHandle Try.prog 45] := by unfold rkB; rw [if_neg (by omega)]
      rw [e1, e2]
      obtain ⟨w', h1, h3, h4⟩ := row_swap g n n d w h.1.1 i j hi hj
      exact ⟨w', h1, h3, h.1.swap h3 h4, Nat.le_trans h.2 h3.size⟩
    small := by omega }
  base := fun d w h => h.2
  keepB := fun d w w' h k => ⟨⟨h.1.1.ch k (by omega), Ch.cell k h.1.2.1 (by show ¬ B ≤ pv; omega), h.1.2.2⟩, Nat.le_trans h.2 k.size⟩
theorem pdqOk_all (n : Nat) (hn : n ≤ 1000000) : PdqOk n := by
  intro g pv d w h
  have hl : Lib.bitLen n < 4611686018427387904 := Nat.lt_of_le_of_lt (Lib.bitLen_le n 62 (by omega) (by omega)) (by omega)
  have hB := RIB.envB (g := g) (n := n) (pv := pv) (B := w.heap.size) hn h.1.lt (World.block_lt_of_cell? _ _ h.2.1)
  refine (pdqC_all hB swo_rlt n 0 n (Lib.bitLen n) (by omega) (Nat.zero_le _) (Nat.le_refl _) hl d w ⟨h, Nat.le_refl _⟩).mono ?_
  rintro e w' ⟨rfl, h1, h2⟩
  have hp := pdq_sorts rlt swo_rlt d 0 n (Lib.bitLen n) true true (Nat.zero_le _) (by rw [h.1.1]; exact Nat.le_refl _) (Or.inl rfl)
  exact ⟨rfl, _, h1, h2.1, hp.1, hp.2⟩
theorem ranksA_call (l : List Int) (h : Tal l) (w : World) :
    Calls Try.prog 19 #[.agg (tl l)] w fun e w' => ∃ a c, e = .returned (.slice a (rankV l).length c) ∧ NewS w w' a c (rankV l) :=
  ranksV_call l h (pdqOk_all _ (Nat.le_trans (usedV_le l) (by omega))) w
end Go.Proofs.Ytlbgnichgjancaa
