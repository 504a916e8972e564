/- Order's closure, the swap of its row, sort.Slice there, over what pdqsort_func gives. -/
import Derived.Test.YtdbpdnfniidfhaaSo
import Derived.Test.YtdbpdnfniidfhaaSoF
import Derived.Test.YtdbpdnfniidfhaaCnK
import Derived.Lib.ReflectliteSwap
import Derived.Laws.Externs
import Derived.Deep.RegionHeld3
import Derived.BigRegion
import Derived.BigQuiet
import Derived.Shelf.GgSortFunc.Slice
import Derived.Shelf.Lay
set_option linter.unusedVariables false
set_option linter.unusedSimpArgs false
namespace Go.Proofs.Ytdbpdnfniidfhaa
open Go.RowKit Go.Sort Go.Lib Go.Shelf

/-- Shorter, or as long and less. -/
def slt (l : List Int) (x y : Int) : Bool := if l.getD x.toNat 0 = l.getD y.toNat 0 then decide (x < y) else decide (l.getD x.toNat 0 < l.getD y.toNat 0)
theorem slt_iff (l : List Int) (x y : Int) : slt l x y = true ↔ l.getD x.toNat 0 < l.getD y.toNat 0 ∨ l.getD x.toNat 0 = l.getD y.toNat 0 ∧ x < y := by
  unfold slt
  generalize l.getD x.toNat 0 = a
  generalize l.getD y.toNat 0 = b
  split
  · rw [decide_eq_true_eq]; omega
  · rw [decide_eq_true_eq]; omega
theorem slt_no (l : List Int) (x y : Int) : slt l x y = false ↔ ¬ (l.getD x.toNat 0 < l.getD y.toNat 0 ∨ l.getD x.toNat 0 = l.getD y.toNat 0 ∧ x < y) := by
  rw [← slt_iff, Bool.not_eq_true]
theorem swo_slt (l : List Int) : SWO (slt l) where
  irrefl := fun x => (slt_no l x x).2 (by omega)
  trans := fun x y z h k => by rw [slt_iff] at h k ⊢; omega
  ntrans := fun x y z h k => by rw [slt_no] at h k ⊢; omega

/-- The row, the variable and the lengths that the closure has captured. -/
structure RI (l : List Int) (A : Option Nat) (c n pv qb : Nat) (d : Array Int) (w : World) : Prop where
  size : d.size = n
  own : OwnS w .i64 3 A c d.toList
  var : w.cell? ⟨pv, 0, none⟩ = some (.slice (ad0 A) n c)
  box : w.heap[qb]? = some (.cells (lg l) 23 (0, 0))
  npv : ∀ g, A = some g → pv ≠ g
  nqb : ∀ g, A = some g → qb ≠ g
  sym : ∀ x ∈ d.toList, 0 ≤ x ∧ x < 258
/-- The block that is changed. -/
def rb (A : Option Nat) (pv : Nat) : Nat := A.getD pv
theorem RI.sm {l : List Int} {A : Option Nat} {c n pv qb : Nat} {d : Array Int} {w w' : World} (h : RI l A c n pv qb d w) (k : Sm w w') : RI l A c n pv qb d w' :=
  ⟨h.size, h.own.ch k (fun _ _ e => e), Ch.cell k h.var (fun e => e), Ch.heap k h.box (fun e => e), h.npv, h.nqb, h.sym⟩
theorem RI.get {l : List Int} {A : Option Nat} {c n pv qb : Nat} {d : Array Int} {w : World} (h : RI l A c n pv qb d w) (i : Nat) (hi : i < n) : d.toList.getD i 0 = d[i]! := by
  have h1 : i < d.size := by rw [h.size]; exact hi
  rw [getElem!_pos d i h1, List.getD_eq_getElem?_getD, Array.getElem?_toList, Array.getElem?_eq_getElem h1]
  rfl
theorem RI.c0 {l : List Int} {g c n pv qb : Nat} {d : Array Int} {w : World} (h : RI l (some g) c n pv qb d w) (i : Nat) (hi : i < n) : w.cell? ⟨g, i, none⟩ = some (.int .i64 d[i]!) := by
  rw [← h.get i hi]
  exact h.own.cell i (by rw [Array.length_toList, h.size]; exact hi)
theorem RI.bd {l : List Int} {A : Option Nat} {c n pv qb : Nat} {d : Array Int} {w : World} (h : RI l A c n pv qb d w) (i : Nat) (hi : i < n) : 0 ≤ d[i]! ∧ d[i]! < 258 := by
  have h1 : i < d.size := by rw [h.size]; exact hi
  rw [getElem!_pos d i h1]
  exact h.sym _ (by simp)
theorem RI.pos {l : List Int} {A : Option Nat} {c n pv qb : Nat} {d : Array Int} {w : World} (h : RI l A c n pv qb d w) (hn : 0 < n) : ∃ g, A = some g := h.own.pos (by rw [Array.length_toList, h.size]; exact hn)
theorem RI.lt {l : List Int} {A : Option Nat} {c n pv qb : Nat} {d : Array Int} {w : World} (h : RI l A c n pv qb d w) : rb A pv < w.heap.size := by
  cases A with
  | none => exact World.block_lt_of_cell? _ _ h.var
  | some g => exact h.own.lt rfl

noncomputable def rkT : TypeInfo := (Try.prog.info? 32).get (by kernel_rfl)
noncomputable def rkE : TypeInfo := (Try.prog.info? 3).get (by kernel_rfl)
theorem rkS : rkE.size = 1 := by kernel_rfl

theorem row_swap (l : List Int) (g c n pv qb : Nat) (d : Array Int) (w : World) (h : RI l (some g) c n pv qb d w) (i j : Nat) (hi : i < n) (hj : j < n) :
    ∃ w', (callFunc 30 (#[.int .i64 i, .int .i64 j] ++ #[.slice (some ⟨g, 0, none⟩) n c, typeHandle Try.prog 3])).run Try.prog w = .ok (.value (.tuple #[])) w' ∧ On g w w' ∧ RI l (some g) c n pv qb (swp d i j) w' := by
  have hr := run_swap_one (P := Try.prog) true 3 rkE (by kernel_rfl) rkS (fun _ => by kernel_rfl) g 0 n c i j hi hj (.int .i64 d[i]!) (.int .i64 d[j]!) rfl rfl w
    (by rw [Nat.zero_add]; exact h.c0 i hi) (by rw [Nat.zero_add]; exact h.c0 j hj) (h.own.frozen _) (h.own.frozen _)
  rw [Nat.zero_add, Nat.zero_add] at hr
  have hx := fun args W => run_callFunc_extern Try.func30 (by kernel_rfl) (by kernel_rfl) (by kernel_rfl) (e := Extern.ReflectliteSwapper.swap true) (by kernel_rfl) args W
  have hon : On g w ((w.setCell ⟨g, i, none⟩ (.int .i64 d[j]!)).setCell ⟨g, j, none⟩ (.int .i64 d[i]!)) :=
    ((Ch.refl (fun k => k = g) w).setCell ⟨g, i, none⟩ _ (.inl rfl)).setCell ⟨g, j, none⟩ _ (.inl rfl)
  refine ⟨_, by rw [hx, show (#[Value.int .i64 (i : Int), Value.int .i64 (j : Int)] ++ #[Value.slice (some ⟨g, 0, none⟩) n c, typeHandle Try.prog 3]) = #[.int .i64 i, .int .i64 j, .slice (some ⟨g, 0, none⟩) n c, typeHandle Try.prog 3] from rfl, hr]; rfl, hon, ?_⟩
  have hl : d.toList.length = n := by rw [Array.length_toList, h.size]
  have hs := (h.own.set i d[j]! (by rw [hl]; exact hi)).set j d[i]! (by rw [List.length_set, hl]; exact hj)
  have e : (swp d i j).toList = (d.toList.set i d[j]!).set j d[i]! := by
    simp [swp]
  refine ⟨by rw [m_size]; exact h.size, ?_, Ch.cell hon h.var (fun e => h.npv g rfl e), Ch.heap hon h.box (fun e => h.nqb g rfl e), h.npv, h.nqb, ?_⟩
  · rw [e]
    exact hs
  · rw [e]
    intro x hx
    rcases List.mem_or_eq_of_mem_set hx with hx | rfl
    · rcases List.mem_or_eq_of_mem_set hx with hx | rfl
      · exact h.sym x hx
      · exact h.bd j hj
    · exact h.bd i hi

set_option maxRecDepth 100000 in
set_option maxHeartbeats 1000000 in
theorem less_call (l : List Int) (hl : Lng l) (g c n pv qb : Nat) (d : Array Int) (w : World) (h : RI l (some g) c n pv qb d w) (i j : Nat) (hi : i < n) (hj : j < n) :
    Calls Try.prog 17 (#[.int .i64 i, .int .i64 j] ++ #[.pointer (some ⟨pv, 0, none⟩), .pointer (some ⟨qb, 0, none⟩)]) w fun e w' => e = .returned (.bool (slt l d[i]! d[j]!)) ∧ Sm w w' := by
  have p0 : w.cell? ⟨pv, 0, none⟩ = some (.slice (some ⟨g, 0, none⟩) n c) := h.var
  have i0 := h.c0 i hi
  have j0 := h.c0 j hj
  have hx := h.bd i hi
  have hy := h.bd j hj
  have hB := h.box
  have HR : RowKit.Hid (slt l d[i]! d[j]! = if l.getD (d[i]!).toNat 0 = l.getD (d[j]!).toNat 0 then decide (d[i]! < d[j]!) else decide (l.getD (d[i]!).toNat 0 < l.getD (d[j]!).toNat 0)) := Lib.hid rfl
  generalize slt l d[i]! d[j]! = R at HR ⊢
  generalize d[i]! = X at i0 hx HR
  generalize d[j]! = Y at j0 hy HR
  obtain ⟨x, rfl⟩ : ∃ x : Nat, X = x := ⟨X.toNat, by omega⟩
  obtain ⟨y, rfl⟩ : ∃ y : Nat, Y = y := ⟨Y.toNat, by omega⟩
  rw [Int.toNat_natCast, Int.toNat_natCast] at HR
  have hx2 : x < 258 := by omega
  have hy2 : y < 258 := by omega
  have bx := lg_cell hB hl x hx2
  have byy := lg_cell hB hl y hy2
  generalize l.getD x 0 = A at bx HR
  generalize l.getD y 0 = B at byy HR
  clear h hB hx hy
  show Calls Try.prog 17 #[.int .i64 i, .int .i64 j, .pointer (some ⟨pv, 0, none⟩), .pointer (some ⟨qb, 0, none⟩)] w _
  go_enter Try.func17, Try.ntmps17
  go_upto_region 1 with fail
  go_quiet (fail)
  go_upto_region 2 with fail
  by_cases hAB : A = B
  · go_quiet (fail)
    go_wp2_with fail
    go_ret
    exact ⟨by rw [HR.out, if_pos hAB, show decide ((x : Int) < (y : Int)) = decide (x < y) by simp]; rfl, .of ((Below.refl _ _).drewN _)⟩
  · go_quiet (fail)
    go_upto_region 4 with fail
    go_quiet (fail)
    go_wp2_with fail
    go_ret
    exact ⟨by rw [HR.out, if_neg hAB]; rfl, .of ((((Below.refl _ _).drewN _).drewN _).drewN _)⟩

shelf_lay LaysGg.n6 Ggs 6 at Try as rkL

/-- Which literal Swapper hands back, what it is bound to. -/
def rkF (n : Nat) : Nat := if n = 0 then 26 else if n = 1 then 27 else 30
noncomputable def rkB (A : Option Nat) (c n : Nat) : Array Value := if n ≤ 1 then #[] else #[.slice (ad0 A) n c, typeHandle Try.prog 3]
theorem rkK (n : Nat) : Lib.swapperK n rkE 2 = if n = 0 then 1 else if n = 1 then 2 else 5 := by
  have a : rkE.hasPointers = false := by kernel_rfl
  have b : rkE.bytes = 8 := by kernel_rfl
  simp only [Lib.swapperK, a, b, beq_iff_eq, Bool.false_and, Bool.false_eq_true, if_false]
theorem rkFind (n : Nat) : Try.prog.funcs.findIdx? (·.name == "internal/reflectlite" ++ ".Swapper$" ++ toString (Lib.swapperK n rkE 2)) = some (rkF n) := by
  rw [rkK]
  unfold rkF
  by_cases h0 : n = 0
  · rw [if_pos h0, if_pos h0]; kernel_rfl
  · rw [if_neg h0, if_neg h0]
    by_cases h1 : n = 1
    · rw [if_pos h1, if_pos h1]; kernel_rfl
    · rw [if_neg h1, if_neg h1]; kernel_rfl
theorem rkBound (A : Option Nat) (c n : Nat) : sliceBound Try.prog 3 rkE 2 (ad0 A) n c = rkB A c n := by
  unfold sliceBound rkB
  rw [rkK]
  by_cases h0 : n = 0
  · rw [if_pos h0, if_pos (by omega), if_pos (by omega)]
  · rw [if_neg h0]
    by_cases h1 : n = 1
    · rw [if_pos h1, if_pos (by omega), if_pos (by omega)]
    · rw [if_neg h1, if_neg (by omega), if_neg (by omega)]

/-- The row, and that it is older than the block B. -/
def RIB (l : List Int) (A : Option Nat) (c n pv qb B : Nat) (d : Array Int) (w : World) : Prop := RI l A c n pv qb d w ∧ B ≤ w.heap.size
theorem pdqC_all {α : Type} [Inhabited α] {lt : α → α → Bool} {g : Nat} {lb : Array Value} {sf : Nat} {sb : Array Value} {blk n : Nat} {I : Array α → World → Prop} {B : Nat} (EB : EnvB lt g lb sf sb blk n I B) (hO : SWO lt) :
    ∀ (m a b lim : Nat), b - a ≤ m → a ≤ b → b ≤ n → lim < 4611686018427387904 → PdqC lt g lb sf sb blk n I a b lim := by
  intro m
  induction m with
  | zero => exact fun a b lim h h1 h2 h3 => pdq_round EB hO a b lim h1 h2 h3 (fun a' b' lim' hlt => by omega)
  | succ m ih => exact fun a b lim h h1 h2 h3 => pdq_round EB hO a b lim h1 h2 h3 (fun a' b' lim' hlt k1 k2 k3 => ih a' b' lim' (by omega) k1 k2 k3)
theorem RIB.envB {l : List Int} (hl : Lng l) {A : Option Nat} {c n pv qb B : Nat} (hn : n ≤ 1000000) (hg : rb A pv < B) (hp : pv < B) (hq : qb < B) :
    EnvB (slt l) 17 #[.pointer (some ⟨pv, 0, none⟩), .pointer (some ⟨qb, 0, none⟩)] (rkF n) (rkB A c n) (rb A pv) n (RIB l A c n pv qb B) B where
  env := {
    eg := enters_of Try.func17 (by kernel_rfl) rfl
    keep := fun d w w' h k => ⟨h.1.sm k, Nat.le_trans h.2 k.size⟩
    here := fun d w h => ⟨h.1.lt, h.1.size⟩
    less := fun d w i j h hi hj => by
      obtain ⟨g, rfl⟩ := h.1.pos (by omega)
      exact less_call l hl g c n pv qb d w h.1 i j hi hj
    swap := fun d w i j h2 h hi hj => by
      obtain ⟨g, rfl⟩ := h.1.pos (by omega)
      have e1 : rkF n = 30 := by unfold rkF; rw [if_neg (by omega), if_neg (by omega)]
      have e2 : rkB (some g) c n = #[.slice (some ⟨g, 0, none⟩) n c, typeHandle Try.prog 3] := by unfold rkB; rw [if_neg (by omega)]; rfl
      rw [e1, e2]
      obtain ⟨w', h1, h3, h4⟩ := row_swap l g c n pv qb d w h.1 i j hi hj
      exact ⟨w', h1, h3, h4, Nat.le_trans h.2 h3.size⟩
    small := by omega }
  base := fun d w h => h.2
  keepB := fun d w w' h k => ⟨⟨h.1.size, h.1.own.ch k (fun g e => by subst e; show ¬ B ≤ g; have : g < B := hg; omega), Ch.cell k h.1.var (by show ¬ B ≤ pv; omega), Ch.heap k h.1.box (by show ¬ B ≤ qb; omega), h.1.npv, h.1.nqb, h.1.sym⟩, Nat.le_trans h.2 k.size⟩

theorem slice_call (l : List Int) (hl : Lng l) (A : Option Nat) (c n pv qb : Nat) (d : Array Int) (w : World) (h : RI l A c n pv qb d w) (hn : n ≤ 1000000) :
    Calls Try.prog 16 #[.iface 32 (.slice (ad0 A) n c), .func (.func 17) #[] #[.pointer (some ⟨pv, 0, none⟩), .pointer (some ⟨qb, 0, none⟩)]] w fun e w' =>
      e = .returned (.tuple #[]) ∧ ∃ d', On (rb A pv) w w' ∧ RI l A c n pv qb d' w' ∧ PermIn 0 n d d' ∧ SortedIn (slt l) 0 n d' := by
  refine Any.sort_Slice_of_pdq rkL 32 3 rkT rkE (by kernel_rfl) (by kernel_rfl) (by kernel_rfl) (by kernel_rfl) 2 (fun _ => by kernel_rfl) (ad0 A) n c (by omega) (rkF n) (rkFind n) _ _ _ w _ ?_
  rw [rkBound]
  have hsm : Sm w (sliceWorld Try.prog rkL_ren 32 (ad0 A) n c w) := by
    unfold sliceWorld
    exact ((Ch.refl _ w).alloc _).alloc _
  generalize sliceWorld Try.prog rkL_ren 32 (ad0 A) n c w = w1 at hsm ⊢
  have h1 := h.sm hsm
  have hb : Lib.bitLen n < 4611686018427387904 := Nat.lt_of_le_of_lt (Lib.bitLen_le n 62 (by omega) (by omega)) (by omega)
  have hB := RIB.envB hl (A := A) (c := c) (n := n) (pv := pv) (qb := qb) (B := w1.heap.size) hn h1.lt (World.block_lt_of_cell? _ _ h1.var) (Array.getElem?_eq_some_iff.1 h1.box).1
  refine (pdqC_all hB (swo_slt l) n 0 n (Lib.bitLen n) (by omega) (Nat.zero_le _) (Nat.le_refl _) hb d w1 ⟨h1, Nat.le_refl _⟩).mono ?_
  rintro e w' ⟨rfl, h2, h3⟩
  have hp := pdq_sorts (slt l) (swo_slt l) d 0 n (Lib.bitLen n) true true (Nat.zero_le _) (by rw [h.size]; exact Nat.le_refl _) (Or.inl rfl)
  exact ⟨rfl, _, hsm.on.trans h2, h3.1, hp.1, hp.2⟩
theorem sorted_is (l : List Int) {n : Nat} {d d' : Array Int} (hd : d.size = n) (hp : PermIn 0 n d d') (hs : SortedIn (slt l) 0 n d') (q : List Int) (hq : q.Perm d.toList) (hqs : q.Pairwise fun x y => slt l y x = false) : d'.toList = q := by
  have hn : d'.size = n := by rw [hp.1]; exact hd
  have hperm : d'.toList.Perm d.toList := by
    have h2 := hp.2.2
    have e1 : (d'.extract 0 n) = d' := by rw [← hn]; exact Array.extract_size
    have e2 : (d.extract 0 n) = d := by rw [← hd]; exact Array.extract_size
    rw [e1, e2] at h2
    exact h2
  refine List.Perm.eq_of_pairwise (le := fun x y => slt l y x = false) (fun a b _ _ h1 h2 => ?_) ?_ hqs (hperm.trans hq.symm)
  · rw [slt_no] at h1 h2
    omega
  · rw [List.pairwise_iff_getElem]
    intro i j hi hj hij
    rw [Array.length_toList] at hi hj
    have := hs i j (Nat.zero_le _) hij (by omega)
    rw [getElem!_pos d' i hi, getElem!_pos d' j hj] at this
    exact this
end Go.Proofs.Ytdbpdnfniidfhaa
