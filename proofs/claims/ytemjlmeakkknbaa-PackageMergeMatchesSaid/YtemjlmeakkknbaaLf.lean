/- leavesOf's closure, the swap of its row, sort.Slice there, over what pdqsort_func gives. -/
import Derived.Test.YtemjlmeakkknbaaSo
import Derived.Test.YtemjlmeakkknbaaSoF
import Derived.Test.YtemjlmeakkknbaaIt
import Derived.Test.YtemjlmeakkknbaaBx
import Derived.Test.YtemjlmeakkknbaaPmT
import Derived.Lib.ReflectliteSwap
import Derived.Laws.Externs
import Derived.Deep.RegionHeld3
import Derived.BigRegion
import Derived.BigQuiet
import Derived.Shelf.GgSortFunc.Slice
import Derived.Shelf.Lay
set_option linter.unusedVariables false
set_option linter.unusedSimpArgs false
namespace Go.Proofs.Ytemjlmeakkknbaa
open Go.RowKit Go.Sort Go.Lib Go.Shelf

theorem swo_rlt : SWO rlt where
  irrefl := fun x => (rlt_no x x).2 (by omega)
  trans := fun x y z h k => by rw [rlt_iff] at h k ⊢; omega
  ntrans := fun x y z h k => by rw [rlt_no] at h k ⊢; omega

/-- The row, and the variable that the closure has captured. -/
def RI (A : Option Nat) (c n pv : Nat) (d : Array (Int × Int)) (w : World) : Prop :=
  d.size = n ∧ OwnI w A c d.toList ∧ w.cell? ⟨pv, 0, none⟩ = some (.slice (ad0 A) n c) ∧ ∀ g, A = some g → pv ≠ g
/-- The block that is changed. -/
def rb (A : Option Nat) (pv : Nat) : Nat := A.getD pv
theorem RI.sm {A : Option Nat} {c n pv : Nat} {d : Array (Int × Int)} {w w' : World} (h : RI A c n pv d w) (k : Sm w w') : RI A c n pv d w' := ⟨h.1, h.2.1.ch k (fun _ _ e => e), Ch.cell k h.2.2.1 (fun e => e), h.2.2.2⟩
theorem RI.c0 {g c n pv : Nat} {d : Array (Int × Int)} {w : World} (h : RI (some g) c n pv d w) (i : Nat) (hi : i < n) : w.cell? ⟨g, i * 2, none⟩ = some (.int .i64 d[i]!.1) := by
  obtain ⟨g', o, e, h0, _⟩ := h.2.1.src.get (j := i) (by rw [Array.length_toList, h.1]; exact hi)
  injection e with e
  injection e with e1 e2 _
  subst e1 e2
  rw [Nat.zero_add] at h0
  rw [h0, getElem!_pos d i (by rw [h.1]; exact hi)]
  rfl
theorem RI.c1 {g c n pv : Nat} {d : Array (Int × Int)} {w : World} (h : RI (some g) c n pv d w) (i : Nat) (hi : i < n) : w.cell? ⟨g, i * 2 + 1, none⟩ = some (.int .u64 d[i]!.2) := by
  obtain ⟨g', o, e, _, h1⟩ := h.2.1.src.get (j := i) (by rw [Array.length_toList, h.1]; exact hi)
  injection e with e
  injection e with e1 e2 _
  subst e1 e2
  rw [Nat.zero_add] at h1
  rw [h1, getElem!_pos d i (by rw [h.1]; exact hi)]
  rfl
theorem RI.pos {A : Option Nat} {c n pv : Nat} {d : Array (Int × Int)} {w : World} (h : RI A c n pv d w) (hn : 0 < n) : ∃ g, A = some g := h.2.1.pos (by rw [Array.length_toList, h.1]; exact hn)
theorem RI.lt {A : Option Nat} {c n pv : Nat} {d : Array (Int × Int)} {w : World} (h : RI A c n pv d w) : rb A pv < w.heap.size := by
  cases A with
  | none => exact World.block_lt_of_cell? _ _ h.2.2.1
  | some g => exact h.2.1.lt rfl

noncomputable def rkT : TypeInfo := (Try.prog.info? 44).get (by kernel_rfl)
noncomputable def rkE : TypeInfo := (Try.prog.info? 52).get (by kernel_rfl)
theorem rkS : rkE.size = 2 := by kernel_rfl

theorem row_swap (g c n pv : Nat) (d : Array (Int × Int)) (w : World) (h : RI (some g) c n pv d w) (i j : Nat) (hi : i < n) (hj : j < n) :
    ∃ w', (callFunc 43 (#[.int .i64 i, .int .i64 j] ++ #[.slice (some ⟨g, 0, none⟩) n c, typeHandle Try.prog 52])).run Try.prog w = .ok (.value (.tuple #[])) w' ∧ On g w w' ∧ RI (some g) c n pv (swp d i j) w' := by
  have hr := run_swap_cells (P := Try.prog) false 52 rkE (by kernel_rfl) (fun _ => by kernel_rfl) g 0 n c i j hi hj [.int .i64 d[i]!.1, .int .u64 d[i]!.2] [.int .i64 d[j]!.1, .int .u64 d[j]!.2] (by rw [rkS]; rfl) (by rw [rkS]; rfl)
    (fun v hv => by simp only [List.mem_cons, List.not_mem_nil, or_false] at hv; rcases hv with rfl | rfl <;> rfl) (fun v hv => by simp only [List.mem_cons, List.not_mem_nil, or_false] at hv; rcases hv with rfl | rfl <;> rfl) w
    (fun k v hk => by
      rw [rkS, Nat.zero_add]
      match k with
      | 0 => simp at hk; subst hk; exact h.c0 i hi
      | 1 => simp at hk; subst hk; exact h.c1 i hi
      | k + 2 => simp at hk)
    (fun k v hk => by
      rw [rkS, Nat.zero_add]
      match k with
      | 0 => simp at hk; subst hk; exact h.c0 j hj
      | 1 => simp at hk; subst hk; exact h.c1 j hj
      | k + 2 => simp at hk)
    (fun k hk => h.2.1.f _) (fun k hk => h.2.1.f _)
  rw [rkS, Nat.zero_add, Nat.zero_add] at hr
  have hx := fun args W => run_callFunc_extern Try.func43 (by kernel_rfl) (by kernel_rfl) (by kernel_rfl) (e := Extern.ReflectliteSwapper.swap false) (by kernel_rfl) args W
  have hon : On g w ((((w.setCell ⟨g, i * 2, none⟩ (.int .i64 d[j]!.1)).setCell ⟨g, i * 2 + 1, none⟩ (.int .u64 d[j]!.2)).setCell ⟨g, j * 2, none⟩ (.int .i64 d[i]!.1)).setCell ⟨g, j * 2 + 1, none⟩ (.int .u64 d[i]!.2)) :=
    ((((Ch.refl (fun k => k = g) w).setCell ⟨g, i * 2, none⟩ _ (.inl rfl)).setCell ⟨g, i * 2 + 1, none⟩ _ (.inl rfl)).setCell ⟨g, j * 2, none⟩ _ (.inl rfl)).setCell ⟨g, j * 2 + 1, none⟩ _ (.inl rfl)
  refine ⟨_, by rw [hx, show (#[Value.int .i64 (i : Int), Value.int .i64 (j : Int)] ++ #[Value.slice (some ⟨g, 0, none⟩) n c, typeHandle Try.prog 52]) = #[.int .i64 i, .int .i64 j, .slice (some ⟨g, 0, none⟩) n c, typeHandle Try.prog 52] from rfl, hr]; rfl, hon, ?_⟩
  have hl : d.toList.length = n := by rw [Array.length_toList, h.1]
  have hs := (h.2.1.set i (by rw [hl]; exact hi) d[j]!.1 d[j]!.2).set j (by rw [List.length_set, hl]; exact hj) d[i]!.1 d[i]!.2
  have e : (swp d i j).toList = (d.toList.set i (d[j]!.1, d[j]!.2)).set j (d[i]!.1, d[i]!.2) := by
    simp [swp]
  refine ⟨by rw [m_size]; exact h.1, ?_, Ch.cell hon h.2.2.1 (fun e => h.2.2.2 g rfl e), h.2.2.2⟩
  rw [e]
  exact hs

set_option maxRecDepth 100000 in
set_option maxHeartbeats 1000000 in
theorem less_call (g c n pv : Nat) (d : Array (Int × Int)) (w : World) (h : RI (some g) c n pv d w) (i j : Nat) (hi : i < n) (hj : j < n) :
    Calls Try.prog 25 (#[.int .i64 i, .int .i64 j] ++ #[.pointer (some ⟨pv, 0, none⟩)]) w fun e w' => e = .returned (.bool (rlt d[i]! d[j]!)) ∧ Sm w w' := by
  have hI := Lib.hid h
  have p0 : w.cell? ⟨pv, 0, none⟩ = some (.slice (some ⟨g, 0, none⟩) n c) := h.2.2.1
  have i0 := h.c0 i hi
  have i1 := h.c1 i hi
  have j0 := h.c0 j hj
  have j1 := h.c1 j hj
  have HR : RowKit.Hid (rlt d[i]! d[j]! = if d[i]!.2 = d[j]!.2 then decide (d[i]!.1 < d[j]!.1) else decide (d[i]!.2 < d[j]!.2)) := Lib.hid rfl
  generalize rlt d[i]! d[j]! = R at HR ⊢
  generalize d[i]!.1 = A at i0 HR
  generalize d[i]!.2 = B at i1 HR
  generalize d[j]!.1 = C at j0 HR
  generalize d[j]!.2 = D at j1 HR
  clear h
  show Calls Try.prog 25 #[.int .i64 i, .int .i64 j, .pointer (some ⟨pv, 0, none⟩)] w _
  go_enter Try.func25, Try.ntmps25
  go_upto_region 1 with fail
  go_cut [6, 7] (fun s6 s7 wx => ∃ q6 q7, s6 = .pointer (some ⟨q6, 0, none⟩) ∧ s7 = .pointer (some ⟨q7, 0, none⟩) ∧ TwoI wx q6 A B ∧ TwoI wx q7 C D ∧ Below w.heap.size w wx)
  case first =>
    go_region_held3 (fun W => W.cell? ⟨pv, 0, none⟩ = some (.slice (some ⟨g, 0, none⟩) n c) ∧ W.cell? ⟨g, i * 2, none⟩ = some (.int .i64 A) ∧ W.cell? ⟨g, i * 2 + 1, none⟩ = some (.int .u64 B) ∧ W.cell? ⟨g, j * 2, none⟩ = some (.int .i64 C) ∧ W.cell? ⟨g, j * 2 + 1, none⟩ = some (.int .u64 D)) (go_keep) ((fail))
    · go_wp2
      go_meet
      exact ⟨_, _, rfl, rfl, ⟨_, heap_alloc2_old w _ _⟩, ⟨_, heap_alloc2_new w _ _⟩, (((Below.refl _ w).alloc (Nat.le_refl _) _).alloc (by simp) _).drew⟩
    · go_wp2
      go_meet
      exact ⟨_, _, rfl, rfl, ⟨_, heap_alloc2_new w _ _⟩, ⟨_, heap_alloc2_old w _ _⟩, (((Below.refl _ w).alloc (Nat.le_refl _) _).alloc (by simp) _).drew⟩
  case rest =>
    obtain ⟨q6, q7, rfl, rfl, h6, h7, hbc⟩ := hcut
    have a0 := h6.c0
    have a1 := h6.c1
    have b0 := h7.c0
    have b1 := h7.c1
    have HB := Lib.hid hbc
    clear h6 h7 hbc
    by_cases hBD : B = D
    · have hd : (B == D) = true := by simp [hBD]
      go_wp2_with fail
      go_ret
      exact ⟨by rw [HR.out, if_pos hBD]; rfl, .of HB.out⟩
    · have hd : (B == D) = false := by simp [hBD]
      go_wp2_with fail
      go_ret
      exact ⟨by rw [HR.out, if_neg hBD]; rfl, .of HB.out⟩

shelf_lay LaysGg.n6 Ggs 6 at Try as rkL

/-- Which literal Swapper hands back, what it is bound to. -/
def rkF (n : Nat) : Nat := if n = 0 then 35 else if n = 1 then 36 else 43
noncomputable def rkB (A : Option Nat) (c n : Nat) : Array Value := if n ≤ 1 then #[] else #[.slice (ad0 A) n c, typeHandle Try.prog 52]
theorem rkK (n : Nat) : Lib.swapperK n rkE 25 = if n = 0 then 1 else if n = 1 then 2 else 9 := by
  have a : rkE.hasPointers = false := by kernel_rfl
  have b : rkE.bytes = 16 := by kernel_rfl
  simp only [Lib.swapperK, a, b, beq_iff_eq, Bool.false_and, Bool.false_eq_true, if_false]
theorem rkFind (n : Nat) : Try.prog.funcs.findIdx? (·.name == "internal/reflectlite" ++ ".Swapper$" ++ toString (Lib.swapperK n rkE 25)) = some (rkF n) := by
  rw [rkK]
  unfold rkF
  by_cases h0 : n = 0
  · rw [if_pos h0, if_pos h0]; kernel_rfl
  · rw [if_neg h0, if_neg h0]
    by_cases h1 : n = 1
    · rw [if_pos h1, if_pos h1]; kernel_rfl
    · rw [if_neg h1, if_neg h1]; kernel_rfl
theorem rkBound (A : Option Nat) (c n : Nat) : sliceBound Try.prog 52 rkE 25 (ad0 A) n c = rkB A c n := by
  unfold sliceBound rkB
  rw [rkK]
  by_cases h0 : n = 0
  · rw [if_pos h0, if_pos (by omega), if_pos (by omega)]
  · rw [if_neg h0]
    by_cases h1 : n = 1
    · rw [if_pos h1, if_pos (by omega), if_pos (by omega)]
    · rw [if_neg h1, if_neg (by omega), if_neg (by omega)]

/-- The row, and that it is older than the block B. -/
def RIB (A : Option Nat) (c n pv B : Nat) (d : Array (Int × Int)) (w : World) : Prop := RI A c n pv d w ∧ B ≤ w.heap.size
theorem pdqC_all {α : Type} [Inhabited α] {lt : α → α → Bool} {g : Nat} {lb : Array Value} {sf : Nat} {sb : Array Value} {blk n : Nat} {I : Array α → World → Prop} {B : Nat} (EB : EnvB lt g lb sf sb blk n I B) (hO : SWO lt) :
    ∀ (m a b lim : Nat), b - a ≤ m → a ≤ b → b ≤ n → lim < 4611686018427387904 → PdqC lt g lb sf sb blk n I a b lim := by
  intro m
  induction m with
  | zero => exact fun a b lim h h1 h2 h3 => pdq_round EB hO a b lim h1 h2 h3 (fun a' b' lim' hlt => by omega)
  | succ m ih => exact fun a b lim h h1 h2 h3 => pdq_round EB hO a b lim h1 h2 h3 (fun a' b' lim' hlt k1 k2 k3 => ih a' b' lim' (by omega) k1 k2 k3)
theorem RIB.envB {A : Option Nat} {c n pv B : Nat} (hn : n ≤ 1000000) (hg : rb A pv < B) (hp : pv < B) :
    EnvB rlt 25 #[.pointer (some ⟨pv, 0, none⟩)] (rkF n) (rkB A c n) (rb A pv) n (RIB A c n pv B) B where
  env := {
    eg := enters_of Try.func25 (by kernel_rfl) rfl
    keep := fun d w w' h k => ⟨h.1.sm k, Nat.le_trans h.2 k.size⟩
    here := fun d w h => ⟨h.1.lt, h.1.1⟩
    less := fun d w i j h hi hj => by
      obtain ⟨g, rfl⟩ := h.1.pos (by omega)
      exact less_call g c n pv d w h.1 i j hi hj
    swap := fun d w i j h2 h hi hj => by
      obtain ⟨g, rfl⟩ := h.1.pos (by omega)
      have e1 : rkF n = 43 := by unfold rkF; rw [if_neg (by omega), if_neg (by omega)]
      have e2 : rkB (some g) c n = #[.slice (some ⟨g, 0, none⟩) n c, typeHandle Try.prog 52] := by unfold rkB; rw [if_neg (by omega)]; rfl
      rw [e1, e2]
      obtain ⟨w', h1, h3, h4⟩ := row_swap g c n pv d w h.1 i j hi hj
      exact ⟨w', h1, h3, h4, Nat.le_trans h.2 h3.size⟩
    small := by omega }
  base := fun d w h => h.2
  keepB := fun d w w' h k => ⟨⟨h.1.1, h.1.2.1.ch k (fun g e => by subst e; show ¬ B ≤ g; have : g < B := hg; omega), Ch.cell k h.1.2.2.1 (by show ¬ B ≤ pv; omega), h.1.2.2.2⟩, Nat.le_trans h.2 k.size⟩

theorem slice_call (A : Option Nat) (c n pv : Nat) (d : Array (Int × Int)) (w : World) (h : RI A c n pv d w) (hn : n ≤ 1000000) :
    Calls Try.prog 24 #[.iface 44 (.slice (ad0 A) n c), .func (.func 25) #[] #[.pointer (some ⟨pv, 0, none⟩)]] w fun e w' =>
      e = .returned (.tuple #[]) ∧ ∃ d', On (rb A pv) w w' ∧ RI A c n pv d' w' ∧ PermIn 0 n d d' ∧ SortedIn rlt 0 n d' := by
  refine Any.sort_Slice_of_pdq rkL 44 52 rkT rkE (by kernel_rfl) (by kernel_rfl) (by kernel_rfl) (by kernel_rfl) 25 (fun _ => by kernel_rfl) (ad0 A) n c (by omega) (rkF n) (rkFind n) _ _ _ w _ ?_
  rw [rkBound]
  have hsm : Sm w (sliceWorld Try.prog rkL_ren 44 (ad0 A) n c w) := by
    unfold sliceWorld
    exact ((Ch.refl _ w).alloc _).alloc _
  generalize sliceWorld Try.prog rkL_ren 44 (ad0 A) n c w = w1 at hsm ⊢
  have h1 := h.sm hsm
  have hl : Lib.bitLen n < 4611686018427387904 := Nat.lt_of_le_of_lt (Lib.bitLen_le n 62 (by omega) (by omega)) (by omega)
  have hB := RIB.envB (A := A) (c := c) (n := n) (pv := pv) (B := w1.heap.size) hn h1.lt (World.block_lt_of_cell? _ _ h1.2.2.1)
  refine (pdqC_all hB swo_rlt n 0 n (Lib.bitLen n) (by omega) (Nat.zero_le _) (Nat.le_refl _) hl d w1 ⟨h1, Nat.le_refl _⟩).mono ?_
  rintro e w' ⟨rfl, h2, h3⟩
  have hp := pdq_sorts rlt swo_rlt d 0 n (Lib.bitLen n) true true (Nat.zero_le _) (by rw [h.1]; exact Nat.le_refl _) (Or.inl rfl)
  exact ⟨rfl, _, hsm.on.trans h2, h3.1, hp.1, hp.2⟩
theorem sorted_is {n : Nat} {d d' : Array (Int × Int)} (hd : d.size = n) (hp : PermIn 0 n d d') (hs : SortedIn rlt 0 n d') : d'.toList = sortR d.toList := by
  have hn : d'.size = n := by rw [hp.1]; exact hd
  have hperm : d'.toList.Perm d.toList := by
    have h2 := hp.2.2
    have e1 : (d'.extract 0 n) = d' := by rw [← hn]; exact Array.extract_size
    have e2 : (d.extract 0 n) = d := by rw [← hd]; exact Array.extract_size
    rw [e1, e2] at h2
    exact h2
  refine sort_unique ?_ (sortR_sorted _) (hperm.trans (sortR_perm _).symm)
  rw [List.pairwise_iff_getElem]
  intro i j hi hj hij
  rw [Array.length_toList] at hi hj
  have := hs i j (Nat.zero_le _) hij (by omega)
  rw [getElem!_pos d' i hi, getElem!_pos d' j hj] at this
  exact this
end Go.Proofs.Ytemjlmeakkknbaa
