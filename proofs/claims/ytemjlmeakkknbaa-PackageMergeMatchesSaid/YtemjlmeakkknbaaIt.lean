/- Items (symbol, weight) in memory: slices of structs of two cells. -/
import Derived.Test.YtemjlmeakkknbaaCel
import Derived.Test.YtemjlmeakkknbaaProg
import Derived.Test.YtemjlmeakkknbaaSoM
set_option linter.unusedVariables false
set_option linter.unusedSimpArgs false
namespace Go.Proofs.Ytemjlmeakkknbaa
open Go.RowKit Go.Sort

/-- An item's cells. -/
def itC (x : Int × Int) : List Value := [.int .i64 x.1, .int .u64 x.2]
def itsC (l : List (Int × Int)) : List Value := l.flatMap itC
theorem itC_len (x : Int × Int) : (itC x).length = 2 := rfl
theorem itsC_len (l : List (Int × Int)) : (itsC l).length = l.length * 2 := flat_length itC 2 itC_len l
theorem itsC_nil : itsC [] = [] := rfl
theorem itsC_cons (a : Int × Int) (l : List (Int × Int)) : itsC (a :: l) = .int .i64 a.1 :: .int .u64 a.2 :: itsC l := rfl
theorem itsC_append (a b : List (Int × Int)) : itsC (a ++ b) = itsC a ++ itsC b := List.flatMap_append
theorem itsC_one (a : Int × Int) : itsC [a] = [.int .i64 a.1, .int .u64 a.2] := rfl
theorem itsC_0 (l : List (Int × Int)) (j : Nat) (hj : j < l.length) : (itsC l)[j * 2]? = some (.int .i64 l[j].1) := flat_get itC 2 itC_len l j 0 hj (by omega)
theorem itsC_1 (l : List (Int × Int)) (j : Nat) (hj : j < l.length) : (itsC l)[j * 2 + 1]? = some (.int .u64 l[j].2) := flat_get itC 2 itC_len l j 1 hj (by omega)
theorem itsC_drop (l : List (Int × Int)) (k : Nat) : (itsC l).drop (k * 2) = itsC (l.drop k) := flat_drop itC 2 itC_len l k
theorem itsC_take (l : List (Int × Int)) (k : Nat) : (itsC l).take (k * 2) = itsC (l.take k) := flat_take itC 2 itC_len l k
theorem itsC_cell (l : List (Int × Int)) : ∀ u ∈ itsC l, u.oneCell' = true := by
  intro u hu
  unfold itsC at hu
  rw [List.mem_flatMap] at hu
  obtain ⟨x, _, hx⟩ := hu
  unfold itC at hx
  simp only [List.mem_cons, List.not_mem_nil, or_false] at hx
  rcases hx with rfl | rfl <;> rfl
theorem itsC_set (l : List (Int × Int)) (j : Nat) (hj : j < l.length) (x : Int × Int) : itsC (l.set j x) = ((itsC l).set (j * 2) (.int .i64 x.1)).set (j * 2 + 1) (.int .u64 x.2) := by
  induction l generalizing j with
  | nil => simp at hj
  | cons a l ih =>
    cases j with
    | zero => rfl
    | succ j =>
      rw [List.set_cons_succ, itsC_cons, itsC_cons, ih j (by simpa using hj), show (j + 1) * 2 = j * 2 + 2 by omega]
      rfl

theorem itmT : Try.prog.underlying 44 = some (.slice 52) := Try.underlying44
theorem itmI : (Try.prog.info? 52).map (fun i => (i.zero, i.size, i.bytes)) = some (some (.agg #[.int .i64 0, .int .u64 0]), 2, 16) := by kernel_rfl

/-- A slice's items in memory. -/
def SrcI (w : World) (sp : Option Addr) (l : List (Int × Int)) : Prop := CS w sp (itsC l)
theorem SrcI.nil (w : World) (sp : Option Addr) : SrcI w sp [] := .inl rfl
theorem SrcI.ch {S : Nat → Prop} {w w' : World} {sp : Option Addr} {l : List (Int × Int)} (h : SrcI w sp l) (hc : Ch S w w') (hn : ∀ x, sp = some x → ¬ S x.block) : SrcI w' sp l := CS.ch h hc hn
theorem SrcI.on {w w' : World} {sp : Option Addr} {l : List (Int × Int)} (h : SrcI w sp l) (hb : Below w.heap.size w w') : SrcI w' sp l := CS.on h hb
theorem SrcI.get {w : World} {sp : Option Addr} {l : List (Int × Int)} (h : SrcI w sp l) {j : Nat} (hj : j < l.length) :
    ∃ g o, sp = some ⟨g, o, none⟩ ∧ w.cell? ⟨g, o + j * 2, none⟩ = some (.int .i64 l[j].1) ∧ w.cell? ⟨g, o + j * 2 + 1, none⟩ = some (.int .u64 l[j].2) := by
  obtain ⟨g, o, hx, hc⟩ := CS.pos h (by rw [itsC_len]; omega)
  exact ⟨g, o, hx, hc _ _ (itsC_0 l j hj), by rw [Nat.add_assoc]; exact hc _ _ (itsC_1 l j hj)⟩
theorem SrcI.head {w : World} {g o : Nat} {a : Int × Int} {l : List (Int × Int)} (h : SrcI w (some ⟨g, o, none⟩) (a :: l)) : w.cell? ⟨g, o, none⟩ = some (.int .i64 a.1) ∧ w.cell? ⟨g, o + 1, none⟩ = some (.int .u64 a.2) := by
  obtain ⟨g', o', hx, h0, h1⟩ := h.get (j := 0) (by simp)
  injection hx with hx
  injection hx with e1 e2 _
  subst e1 e2
  simpa using And.intro h0 h1
theorem SrcI.tail {w : World} {g o : Nat} {a : Int × Int} {l : List (Int × Int)} (h : SrcI w (some ⟨g, o, none⟩) (a :: l)) : SrcI w (some ⟨g, o + 2, none⟩) l := CS.drop h 2
theorem SrcI.take {w : World} {sp : Option Addr} {l : List (Int × Int)} (h : SrcI w sp l) (n : Nat) : SrcI w sp (l.take n) := by
  have := CS.take h (n * 2)
  rw [itsC_take] at this
  exact this
theorem SrcI.blk {w : World} {sp : Option Addr} {l : List (Int × Int)} (h : SrcI w sp l) (hl : 0 < l.length) : ∀ x, sp = some x → x.block < w.heap.size := by
  intro x hx
  obtain ⟨g, o, hs, hg⟩ := CS.lt h (by rw [itsC_len]; omega)
  rw [hs] at hx
  injection hx with hx
  subst hx
  exact hg

/-- A slice of items of the call's own. -/
def OwnI (w : World) (A : Option Nat) (c : Nat) (l : List (Int × Int)) : Prop := OwnC w 52 2 A c l.length (itsC l)
theorem OwnI.nil (w : World) : OwnI w none 0 [] := OwnC.nil _ _ _
theorem OwnI.src {w : World} {A : Option Nat} {c : Nat} {l : List (Int × Int)} (h : OwnI w A c l) : SrcI w (ad0 A) l := OwnC.src h
theorem OwnI.ch {S : Nat → Prop} {w w' : World} {A : Option Nat} {c : Nat} {l : List (Int × Int)} (h : OwnI w A c l) (hc : Ch S w w') (hn : ∀ g, A = some g → ¬ S g) : OwnI w' A c l := OwnC.ch h hc hn
theorem OwnI.on {w w' : World} {A : Option Nat} {c : Nat} {l : List (Int × Int)} (h : OwnI w A c l) (hb : Below w.heap.size w w') : OwnI w' A c l := OwnC.on h hb
theorem OwnI.cap {w : World} {A : Option Nat} {c : Nat} {l : List (Int × Int)} (h : OwnI w A c l) : l.length ≤ c ∧ c ≤ maxLen := OwnC.cap h
theorem OwnI.lt {w : World} {A : Option Nat} {c : Nat} {l : List (Int × Int)} (h : OwnI w A c l) {g : Nat} (hg : A = some g) : g < w.heap.size := OwnC.lt h hg
theorem OwnI.pos {w : World} {A : Option Nat} {c : Nat} {l : List (Int × Int)} (h : OwnI w A c l) (hl : 0 < l.length) : ∃ g, A = some g := by
  cases A with
  | none =>
    have := (OwnC.isNone h).1
    omega
  | some g => exact ⟨g, rfl⟩
theorem OwnI.f {w : World} {g c : Nat} {l : List (Int × Int)} (h : OwnI w (some g) c l) (j : Nat) : w.frozen? ⟨g, j, none⟩ = false := OwnC.frozen h j
theorem OwnI.set {w : World} {g c : Nat} {l : List (Int × Int)} (h : OwnI w (some g) c l) (j : Nat) (hj : j < l.length) (a b : Int) :
    OwnI ((w.setCell ⟨g, j * 2, none⟩ (.int .i64 a)).setCell ⟨g, j * 2 + 1, none⟩ (.int .u64 b)) (some g) c (l.set j (a, b)) := by
  have := OwnC.set (OwnC.set h (j * 2) (.int .i64 a)) (j * 2 + 1) (.int .u64 b)
  rw [← itsC_set l j hj (a, b)] at this
  unfold OwnI
  rw [List.length_set]
  exact this
end Go.Proofs.Ytemjlmeakkknbaa
