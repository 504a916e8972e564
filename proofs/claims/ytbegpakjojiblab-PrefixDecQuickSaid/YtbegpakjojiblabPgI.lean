/- The developers' All. -/
import Derived.Test.YtbegpakjojiblabPgH
import Derived.Deep.WholeRow
import Derived.Sort.QuietIn
import Derived.Sort.CutIn
set_option linter.unusedVariables false
set_option linter.unusedSimpArgs false
namespace Go.Proofs.Ytbegpakjojiblab
open Go.RowKit Go.Shelf
attribute [local go_sem] Oper.semAt_some

/-- What All lays first. -/
structure Five (n0 : Nat) (l : List Int) (m : Int) (v6 v7 v8 : Value) (W : World) : Prop where
  len : W.heap[n0]? = some (.cells (lg l) 23 (0, 0))
  many : Boxed W (n0 + 1) 3 (.int .i64 m)
  sym : Boxed W (n0 + 1 + 1) 42 v6
  cnt : Boxed W (n0 + 1 + 1 + 1) 3 v7
  err : Boxed W (n0 + 1 + 1 + 1 + 1) 30 v8
theorem five_start (w : World) (l : List Int) (m : Int) : Five w.heap.size l m (.slice none 0 0) (.int .i64 0) (.int .i64 0) (((((w.alloc (.cells (lg l) 23)).alloc (.cells #[.int .i64 m] 3)).alloc (.cells #[.slice none 0 0] 42)).alloc (.cells #[.int .i64 0] 3)).alloc (.cells #[.int .i64 0] 30)) := by
  have b3 := heap_on (below_al _ (.cells #[.int .i64 0] 30)) (heap_on (below_al _ (.cells #[.int .i64 0] 3)) (heap_on (below_al _ (.cells #[.slice none 0 0] 42)) (heap_on (below_al _ (.cells #[.int .i64 m] 3)) (heap_alloc_last w (.cells (lg l) 23)))))
  have b4 := (((Boxed.new (w.alloc (.cells (lg l) 23)) 3 (.int .i64 m)).alloc (.cells #[.slice none 0 0] 42)).alloc (.cells #[.int .i64 0] 3)).alloc (.cells #[.int .i64 0] 30)
  have b6 := ((Boxed.new ((w.alloc (.cells (lg l) 23)).alloc (.cells #[.int .i64 m] 3)) 42 (.slice none 0 0)).alloc (.cells #[.int .i64 0] 3)).alloc (.cells #[.int .i64 0] 30)
  have b7 := (Boxed.new (((w.alloc (.cells (lg l) 23)).alloc (.cells #[.int .i64 m] 3)).alloc (.cells #[.slice none 0 0] 42)) 3 (.int .i64 0)).alloc (.cells #[.int .i64 0] 30)
  have b8 := Boxed.new ((((w.alloc (.cells (lg l) 23)).alloc (.cells #[.int .i64 m] 3)).alloc (.cells #[.slice none 0 0] 42)).alloc (.cells #[.int .i64 0] 3)) 30 (.int .i64 0)
  simp only [World.size_alloc] at b4 b6 b7 b8
  exact ⟨b3, b4, b6, b7, b8⟩
theorem Five.on {n0 : Nat} {l : List Int} {m : Int} {v6 v7 v8 : Value} {W W' : World} (h : Five n0 l m v6 v7 v8 W) (hb : Below W.heap.size W W') : Five n0 l m v6 v7 v8 W' :=
  ⟨heap_on hb h.len, heap_on hb h.many, heap_on hb h.sym, heap_on hb h.cnt, heap_on hb h.err⟩
theorem Five.set8 {n0 : Nat} {l : List Int} {m : Int} {v6 v7 v8 : Value} {W : World} (h : Five n0 l m v6 v7 v8 W) (v : Value) : Five n0 l m v6 v7 v (W.setCell ⟨n0 + 1 + 1 + 1 + 1, 0, none⟩ v) := by
  have h0 := h.err.set v
  have hc : Ch (fun k => k = n0 + 1 + 1 + 1 + 1) W (W.setCell ⟨n0 + 1 + 1 + 1 + 1, 0, none⟩ v) := (Ch.refl _ W).setCell _ _ (.inl rfl)
  exact ⟨hc.heap h.len (by omega), hc.heap h.many (by omega), hc.heap h.sym (by omega), hc.heap h.cnt (by omega), h0⟩
theorem Five.set7 {n0 : Nat} {l : List Int} {m : Int} {v6 v7 v8 : Value} {W : World} (h : Five n0 l m v6 v7 v8 W) (v : Value) : Five n0 l m v6 v v8 (W.setCell ⟨n0 + 1 + 1 + 1, 0, none⟩ v) := by
  have h0 := h.cnt.set v
  have hc : Ch (fun k => k = n0 + 1 + 1 + 1) W (W.setCell ⟨n0 + 1 + 1 + 1, 0, none⟩ v) := (Ch.refl _ W).setCell _ _ (.inl rfl)
  exact ⟨hc.heap h.len (by omega), hc.heap h.many (by omega), hc.heap h.sym (by omega), h0, hc.heap h.err (by omega)⟩
theorem Five.set6 {n0 : Nat} {l : List Int} {m : Int} {v6 v7 v8 : Value} {W : World} (h : Five n0 l m v6 v7 v8 W) (v : Value) : Five n0 l m v v7 v8 (W.setCell ⟨n0 + 1 + 1, 0, none⟩ v) := by
  have h0 := h.sym.set v
  have hc : Ch (fun k => k = n0 + 1 + 1) W (W.setCell ⟨n0 + 1 + 1, 0, none⟩ v) := (Ch.refl _ W).setCell _ _ (.inl rfl)
  exact ⟨hc.heap h.len (by omega), hc.heap h.many (by omega), h0, hc.heap h.cnt (by omega), hc.heap h.err (by omega)⟩

theorem keepsOthers_of_ch {S : Nat → Prop} {w w' : World} (h : Ch S w w') (hS : ∀ k, S k → ∃ cs t, w.heap[k]? = some (.cells cs t (0, 0))) : KeepsOthers w w' :=
  ⟨h.size, fun k o hk ho => (h.block k (Array.getElem?_eq_some_iff.1 hk).1 (fun e => by
    obtain ⟨cs, t, h1⟩ := hS k e
    rw [h1] at hk
    cases hk
    cases ho)).trans hk⟩
theorem KeepsOthers.drew {W X : World} (h : KeepsOthers W X) : KeepsOthers W X.drew := ⟨h.size, h.same⟩
/-- What a round leaves as it was. -/
theorem AR.left {n0 g4 g6 g7 g8 g9 g10 gb M : Nat} {v6 v7 v8 : Value} {s9 : Array Value} {ct : List Int} {A : Option Nat} {cp : Nat} {out : List Int} {W W' : World} (o : Od n0 g4 g6 g7 g8 g9 g10 gb) (h : AR g4 g6 g7 g8 g9 g10 gb M v6 v7 v8 s9 ct A cp out W) (hn : n0 ≤ W.heap.size) (hgb : gb < W.heap.size)
    (hc : Ch (fun k => k = g9 ∨ A = some k ∨ k = g6 ∨ k = g7) W W') : KeepsOthers W W' ∧ KpB n0 gb (gb + 1) W W' := by
  obtain ⟨o1, o2, o3, o4, o5, o6, o7⟩ := o
  refine ⟨keepsOthers_of_ch hc (fun k hk => ?_), hc.below hn (fun k hk => ?_), fun k h1 h2 => hc.block k (by omega) (fun hk => ?_)⟩
  · rcases hk with rfl | hk | rfl | rfl
    · exact ⟨_, _, h.sta⟩
    · subst hk
      obtain ⟨cur, h1, _⟩ := h.own.row
      exact ⟨_, _, h1⟩
    · exact ⟨_, _, h.sym⟩
    · exact ⟨_, _, h.cnt⟩
  · rcases hk with rfl | hk | rfl | rfl
    · omega
    · have := h.new k hk
      omega
    · omega
    · omega
  · rcases hk with hk | hk | hk | hk
    · omega
    · have := h.new k hk
      omega
    · omega
    · omega
/-- Between the rounds. -/
def AllI (w : World) (l ct : List Int) (g9 g10 gb M : Nat) (pre : List BE) (W : World) : Prop :=
  (∃ (A : Option Nat) (cp c n : Nat) (out : List Int), okP l M (0, 0, []) pre ∧ runE l (0, 0, []) pre = ((c : Int), (n : Int), out) ∧ Pre l c n ∧
    AR (w.heap.size + 1) (w.heap.size + 1 + 1) (w.heap.size + 1 + 1 + 1) (w.heap.size + 1 + 1 + 1 + 1) g9 g10 gb M (.slice (ad0 A) out.length cp) (.int .i64 (pre.length : Int)) (.int .i64 0) (sg l c n) ct A cp out W ∧ gb < W.heap.size) ∧ Below w.heap.size w W
/-- When a round ends them. -/
def AllX (w : World) (l ct : List Int) (g9 g10 gb M : Nat) (k : Code) (pre' : List BE) (W : World) : Prop :=
  ∃ (pre : List BE) (x : BE), pre' = pre ++ [x] ∧ ((k = .exit 0 ∧ AllI w l ct g9 g10 gb M pre W ∧ (runE l (0, 0, []) pre).2.2.length = M) ∨
    (k = .ret ∧ okP l M (0, 0, []) pre ∧ (runE l (0, 0, []) pre).2.2.length ≠ M ∧ x.1.2 ≠ 0 ∧
      (∃ (A : Option Nat) (cp : Nat) (s9 : Array Value) (out : List Int), AR (w.heap.size + 1) (w.heap.size + 1 + 1) (w.heap.size + 1 + 1 + 1) (w.heap.size + 1 + 1 + 1 + 1) g9 g10 gb M (.slice none 0 0) (.int .i64 0) (.int .i64 x.1.2) s9 ct A cp out W) ∧ Below w.heap.size w W))
theorem AllI.turn {w : World} {l ct : List Int} {g9 g10 gb M B : Nat} (hB : w.heap.size ≤ B) : OwnFrom B (AllI w l ct g9 g10 gb M) := fun pre X Y row hs hg hr => by
  obtain ⟨⟨A, cp, c, n, out, h1, h2, h3, h4, h5⟩, hb⟩ := hs
  exact ⟨⟨A, cp, c, n, out, h1, h2, h3, h4.turn hg (fun r e => (hr r e).2), Nat.lt_of_lt_of_le h5 hg.size⟩, hb.grown hg hb.size (fun k e => Nat.le_trans hB (hr k e).1)⟩
theorem AllX.turn {w : World} {l ct : List Int} {g9 g10 gb M B : Nat} (hB : w.heap.size ≤ B) (k : Code) : OwnFrom B (AllX w l ct g9 g10 gb M k) := fun pre' X Y row hs hg hr => by
  obtain ⟨pre, x, e, h⟩ := hs
  refine ⟨pre, x, e, ?_⟩
  rcases h with ⟨h1, h2, h3⟩ | ⟨h1, h2, h3, h4, ⟨A, cp, s9, out, h5⟩, hb⟩
  · exact .inl ⟨h1, AllI.turn hB pre X Y row h2 hg hr, h3⟩
  · exact .inr ⟨h1, h2, h3, h4, ⟨A, cp, s9, out, h5.turn hg (fun r e => (hr r e).2)⟩, hb.grown hg hb.size (fun k e => Nat.le_trans hB (hr k e).1)⟩

set_option maxRecDepth 100000 in
set_option maxHeartbeats 4000000 in
theorem all_bad (l : List Int) (h : Lng l) (m : Int) (hmw : (Lit.int .i64 m).wf = true) (sp : Option Addr) (len cap : Nat) (hgo : ¬ (tableV l = true ∧ 0 ≤ m)) (w : World) :
    Calls Try.prog 10 #[.agg (lg l), .int .i64 m, .slice sp len cap] w fun e w' => e = .returned (.tuple #[.slice none 0 0, .int .i64 0, .int .i64 2]) ∧ Below w.heap.size w w' := by
  have hnc := Lib.hid (fun W => new_call l h W)
  have hmb := bounds_i64 hmw
  have HT := Lib.hid (show (tableV l = true → (if tableV l then l else zL) = l ∧ (if tableV l then (0 : Int) else 2) = 0) ∧ (tableV l = false → (if tableV l then l else zL) = zL ∧ (if tableV l then (0 : Int) else 2) = 2) from ⟨fun e => by rw [e]; exact ⟨rfl, rfl⟩, fun e => by rw [e]; exact ⟨rfl, rfl⟩⟩)
  have hL1 : Lng (if tableV l then l else zL) := by split; exact h; exact zL_lng
  generalize (if tableV l then l else zL) = L1 at HT hnc hL1
  generalize (if tableV l then (0 : Int) else 2) = E1 at HT hnc
  have hzT := stZ
  have hz0 := sg_size zL_lng 0 0
  have hz1 := sg_size hL1 0 0
  go_enter Try.func10, Try.ntmps10
  go_upto_region 1 with fail
  have HF := Lib.hid (five_start w l m)
  have HB := Lib.hid (show Below w.heap.size w (((((w.alloc (.cells (lg l) 23)).alloc (.cells #[.int .i64 m] 3)).alloc (.cells #[.slice none 0 0] 42)).alloc (.cells #[.int .i64 0] 3)).alloc (.cells #[.int .i64 0] 30)) from (((((Below.refl _ _).alloc (Nat.le_refl _) _).alloc (by simp) _).alloc (by simp; omega) _).alloc (by simp; omega) _).alloc (by simp; omega) _)
  generalize ((((w.alloc (.cells (lg l) 23)).alloc (.cells #[.int .i64 m] 3)).alloc (.cells #[.slice none 0 0] 42)).alloc (.cells #[.int .i64 0] 3)).alloc (.cells #[.int .i64 0] 30) = w1 at HF HB ⊢
  have hg := HF.out.len
  go_upto_region 2 with (first
    | (refine wpList_load_row rfl 23 _ rfl w.heap.size rfl 23 (lg l) (0, 0) _ hg Try.underlying23 rfl (lngIk h) ?_)
    | ((with_reducible refine (hnc.out _).mono ?_); rintro e w2 ⟨rfl, hb2⟩)
    | (refine wpList_store_row rfl 34 _ _ rfl w2.heap.size (sg L1 0 0) rfl rfl 34 (sg zL 0 0) (heap_alloc_last w2 _) (stIk hL1 0 0) (by rw [hz0, hz1]) (sg_all _ _ _) ?_
       rw [World.setRow_alloc_new]
       have hby := hb2.alloc (o := .cells (sg L1 0 0) 34) hb2.size
       have HF3 := Lib.hid (HF.out.on hby)
       have HB3 := Lib.hid (HB.out.trans (hby.mono HB.out.size))
       generalize w2.alloc (.cells (sg L1 0 0) 34) = w3 at hby HF3 HB3 ⊢
       have c8 := HF3.out.err.cell
       have f8 := HF3.out.err.frozen
       clear hby hg))
  clear c8 f8 HF HB hnc hzT
  have HF4 := Lib.hid (HF3.out.set8 (.int .i64 E1))
  have HB4 := Lib.hid (HB3.out.setCell (p := ⟨w.heap.size + 1 + 1 + 1 + 1, 0, none⟩) (by simp; omega) (.int .i64 E1))
  generalize w3.setCell ⟨w.heap.size + 1 + 1 + 1 + 1, 0, none⟩ (.int .i64 E1) = w4 at HF4 HB4 ⊢
  clear HF3 HB3
  have c8 := HF4.out.err.cell
  have c4 := HF4.out.many.cell
  have c6 := HF4.out.sym.cell
  have f6 := HF4.out.sym.frozen
  have hF5 := HF4.out.set6 (.slice none 0 0)
  have c7 := hF5.cnt.cell
  have f7 := hF5.cnt.frozen
  have hF6 := hF5.set7 (.int .i64 0)
  have c9 := hF6.err.cell
  have f9 := hF6.err.frozen
  have HF7 := Lib.hid (hF6.set8 (.int .i64 2))
  have HB7 := Lib.hid (((HB4.out.setCell (p := ⟨w.heap.size + 1 + 1, 0, none⟩) (by simp; omega) (.slice none 0 0)).setCell (p := ⟨w.heap.size + 1 + 1 + 1, 0, none⟩) (by simp; omega) (.int .i64 0)).setCell (p := ⟨w.heap.size + 1 + 1 + 1 + 1, 0, none⟩) (by simp; omega) (.int .i64 2))
  clear hF5 hF6
  cases hT : tableV l with
  | false =>
    obtain ⟨rfl, rfl⟩ := HT.out.2 hT
    clear HT hT hgo
    go_wp2_with fail
    have d6 := HF7.out.sym.cell
    have d7 := HF7.out.cnt.cell
    have d8 := HF7.out.err.cell
    exact bodyPost_ret (v := .tuple #[.slice none 0 0, .int .i64 0, .int .i64 2]) (by simp [results, Try.results10, go_sem, d6, d7, d8]) rfl ⟨rfl, HB7.out⟩
  | true =>
    obtain ⟨hL1e, rfl⟩ := HT.out.1 hT
    have hm : m < 0 := by
      by_cases e : 0 ≤ m
      · exact absurd ⟨hT, e⟩ hgo
      · omega
    have hd0 : decide (m < 0) = true := decide_eq_true hm
    clear HT hT hgo hL1e
    go_wp2_with fail
    have d6 := HF7.out.sym.cell
    have d7 := HF7.out.cnt.cell
    have d8 := HF7.out.err.cell
    exact bodyPost_ret (v := .tuple #[.slice none 0 0, .int .i64 0, .int .i64 2]) (by simp [results, Try.results10, go_sem, d6, d7, d8]) rfl ⟨rfl, HB7.out⟩

set_option maxRecDepth 100000 in
set_option maxHeartbeats 4000000 in
theorem all_call : AllC := by
  intro l h m hmw sp len cap q hq h63 w hs
  by_cases hgo0 : tableV l = true ∧ 0 ≤ m
  case neg =>
    refine (all_bad l h m hmw sp len cap hgo0 w).mono ?_
    rintro e w' ⟨rfl, hb⟩
    have hR : alR l m q = ([], 0, 2) := by unfold alR; rw [if_neg hgo0]
    exact ⟨none, 0, by rw [hR]; rfl, by rw [hR]; exact Src.nil _ _ _, hb⟩
  have hnc := Lib.hid (fun W => new_call l h W)
  have hcc := Lib.hid (fun W => counts_call l h W)
  have HQ := Lib.hid hq
  have HS := Lib.hid hs
  have hmb := bounds_i64 hmw
  have HAL := Lib.hid (show (tableV l = true ∧ 0 ≤ m → alR l m q = alG l 0 0 [] 0 m.toNat q) ∧ (¬ (tableV l = true ∧ 0 ≤ m) → alR l m q = ([], 0, 2)) from ⟨fun e => by unfold alR; rw [if_pos e], fun e => by unfold alR; rw [if_neg e]⟩)
  have HT := Lib.hid (show (tableV l = true → (if tableV l then l else zL) = l ∧ (if tableV l then (0 : Int) else 2) = 0) ∧ (tableV l = false → (if tableV l then l else zL) = zL ∧ (if tableV l then (0 : Int) else 2) = 2) from ⟨fun e => by rw [e]; exact ⟨rfl, rfl⟩, fun e => by rw [e]; exact ⟨rfl, rfl⟩⟩)
  have hL1 : Lng (if tableV l then l else zL) := by split; exact h; exact zL_lng
  generalize (if tableV l then l else zL) = L1 at HT hnc hL1
  generalize (if tableV l then (0 : Int) else 2) = E1 at HT hnc
  obtain ⟨R, hR⟩ : ∃ R, R = alR l m q := ⟨_, rfl⟩
  rw [← hR] at HAL ⊢
  clear hR hq hs hmw
  have hzT := stZ
  have hzX := sxtZ
  have hz0 := sg_size zL_lng 0 0
  have hz1 := sg_size hL1 0 0
  have hS := cntT_sxt l 258 (by omega)
  have HPRE := Lib.hid (Pre.zero (l := l))
  obtain ⟨ct, hct⟩ : ∃ ct, ct = cntT l 258 := ⟨_, rfl⟩
  rw [← hct] at hcc hS
  have HCT := Lib.hid hct
  clear hct
  have hxs := xl_size hS
  have hxz := xl_size zX_sxt
  refine (callsIn_wide (n := 6)).1 ?_
  have h1 : 1 ≤ 6 := by omega
  refine callsIn_of_wp_marks Try.func10 rfl trivial ?_ rfl
  simp only [Try.ntmps10, List.size_toArray, List.length_cons, List.length_nil, Nat.reduceAdd, Nat.reduceSub, Array.replicate_succ, Array.replicate_zero, List.push_toArray, List.append_toArray, List.nil_append, List.cons_append]
  gi_upto_region 1 with fail
  have HF := Lib.hid (five_start w l m)
  have HB := Lib.hid (show Below w.heap.size w (((((w.alloc (.cells (lg l) 23)).alloc (.cells #[.int .i64 m] 3)).alloc (.cells #[.slice none 0 0] 42)).alloc (.cells #[.int .i64 0] 3)).alloc (.cells #[.int .i64 0] 30)) from (((((Below.refl _ _).alloc (Nat.le_refl _) _).alloc (by simp) _).alloc (by simp; omega) _).alloc (by simp; omega) _).alloc (by simp; omega) _)
  generalize ((((w.alloc (.cells (lg l) 23)).alloc (.cells #[.int .i64 m] 3)).alloc (.cells #[.slice none 0 0] 42)).alloc (.cells #[.int .i64 0] 3)).alloc (.cells #[.int .i64 0] 30) = w1 at HF HB ⊢
  have hg := HF.out.len
  gi_upto_region 2 with (first
    | (refine wpListIn_load_row rfl 23 _ rfl w.heap.size rfl 23 (lg l) (0, 0) _ hg Try.underlying23 rfl (lngIk h) ?_)
    | (refine ⟨trivial, ?_⟩; gi_at_call 7; go_must (refine (callsIn_wide.2 (hnc.out _)).mono ?_; rintro e w2 ⟨rfl, hb2⟩))
    | (refine wpListIn_store_row rfl 34 _ _ rfl w2.heap.size (sg L1 0 0) rfl rfl 34 (sg zL 0 0) (heap_alloc_last w2 _) (stIk hL1 0 0) (by rw [hz0, hz1]) (sg_all _ _ _) ?_
       rw [World.setRow_alloc_new]
       have hby := hb2.alloc (o := .cells (sg L1 0 0) 34) hb2.size
       have HF3 := Lib.hid (HF.out.on hby)
       have H9 := Lib.hid (heap_alloc_last w2 (.cells (sg L1 0 0) 34))
       have HB3 := Lib.hid (HB.out.trans (hby.mono HB.out.size))
       have HLT := Lib.hid (show w.heap.size + 1 + 1 + 1 + 1 < w2.heap.size from Nat.lt_of_lt_of_le (Array.getElem?_eq_some_iff.1 HF.out.err).1 hb2.size)
       obtain ⟨g9, hg9⟩ : ∃ g9, g9 = w2.heap.size := ⟨_, rfl⟩
       rw [← hg9] at H9 HLT
       have HG9 := Lib.hid hg9
       clear hg9
       generalize w2.alloc (.cells (sg L1 0 0) 34) = w3 at hby HF3 H9 HB3 ⊢
       have c8 := HF3.out.err.cell
       have f8 := HF3.out.err.frozen
       clear hby hg))
  have hg9 := HG9.out
  rw [← hg9]
  clear hg9 HG9 c8 f8 HF HB hnc hb2 hzT
  have HF4 := Lib.hid (HF3.out.set8 (.int .i64 E1))
  have H94 := Lib.hid (((Ch.refl (fun k => k = w.heap.size + 1 + 1 + 1 + 1) w3).setCell ⟨w.heap.size + 1 + 1 + 1 + 1, 0, none⟩ (.int .i64 E1) (.inl rfl)).heap H9.out (by have := HLT.out; omega))
  have HB4 := Lib.hid (HB3.out.setCell (p := ⟨w.heap.size + 1 + 1 + 1 + 1, 0, none⟩) (by simp; omega) (.int .i64 E1))
  generalize w3.setCell ⟨w.heap.size + 1 + 1 + 1 + 1, 0, none⟩ (.int .i64 E1) = w4 at HF4 H94 HB4 ⊢
  clear HF3 H9 HB3
  by_cases hgo : tableV l = true ∧ 0 ≤ m
  · obtain ⟨hT, hm0⟩ := hgo
    obtain ⟨hL1e, rfl⟩ := HT.out.1 hT
    have HRR := Lib.hid (HAL.out.1 ⟨hT, hm0⟩)
    obtain ⟨M, rfl⟩ : ∃ M : Nat, m = (M : Int) := ⟨m.toNat, by omega⟩
    have HTL := Lib.hid (TL.mk h hT)
    subst hL1e
    clear HAL HT hT
    have c8 := HF4.out.err.cell
    have c4 := HF4.out.many.cell
    have hd0 : decide ((M : Int) < 0) = false := decide_eq_false (by omega)
    have hg := HF4.out.len
    gi_upto_region 5 with (first
      | (refine wpListIn_load_row rfl 23 _ rfl w.heap.size rfl 23 (lg L1) (0, 0) _ hg Try.underlying23 rfl (lngIk h) ?_)
      | (refine ⟨trivial, ?_⟩; gi_at_call 16; go_must (refine (callsIn_wide.2 (hcc.out _)).mono ?_; rintro e w5 ⟨rfl, hb5⟩))
      | (refine wpListIn_store_row rfl 53 _ _ rfl w5.heap.size (xl ct) rfl rfl 53 (xl zX) (heap_alloc_last w5 _) (sxtIk hS) (by rw [hxz, hxs]) (xl_all _) ?_
         rw [World.setRow_alloc_new]
         have hby := hb5.alloc (o := .cells (xl ct) 53) hb5.size
         have HF6 := Lib.hid (HF4.out.on hby)
         have H96 := Lib.hid (heap_on hby H94.out)
         have H10 := Lib.hid (heap_alloc_last w5 (.cells (xl ct) 53))
         have HB6 := Lib.hid (HB4.out.trans (hby.mono HB4.out.size))
         have HL10 := Lib.hid (show g9 < w5.heap.size from Nat.lt_of_lt_of_le (Array.getElem?_eq_some_iff.1 H94.out).1 hb5.size)
         obtain ⟨g10, hg10⟩ : ∃ g10, g10 = w5.heap.size := ⟨_, rfl⟩
         rw [← hg10] at H10 HL10
         have HG10 := Lib.hid hg10
         clear hg10
         generalize w5.alloc (.cells (xl ct) 53) = w6 at hby HF6 H96 H10 HB6 ⊢
         clear hby))
    have hg10 := HG10.out
    rw [← hg10]
    clear hg10 HG10 hcc hzX HF4 H94 HB4 hb5 hg c8 c4
    gi_wp2_with (refine ⟨trivial, ?_⟩; gi_at_call 21; go_must (refine (bitsOf_in _ sp len cap _).mono ?_; rintro e w7 ⟨rfl, rfl⟩))
    have HOD := Lib.hid (show Od w.heap.size (w.heap.size + 1) (w.heap.size + 1 + 1) (w.heap.size + 1 + 1 + 1) (w.heap.size + 1 + 1 + 1 + 1) g9 g10 w6.heap.size from
      ⟨by omega, by omega, by omega, by omega, HLT.out, HL10.out, (Array.getElem?_eq_some_iff.1 H10.out).1⟩)
    have hbb := below_al w6 (.cells #[.slice sp len cap] 42)
    have HAR := Lib.hid (show AR (w.heap.size + 1) (w.heap.size + 1 + 1) (w.heap.size + 1 + 1 + 1) (w.heap.size + 1 + 1 + 1 + 1) g9 g10 w6.heap.size M (.slice (ad0 none) (List.length ([] : List Int)) 0) (.int .i64 0) (.int .i64 0) (sg L1 0 0) ct none 0 [] (w6.alloc (.cells #[.slice sp len cap] 42)) from
      ⟨heap_on hbb HF6.out.many, heap_on hbb HF6.out.sym, heap_on hbb HF6.out.cnt, heap_on hbb HF6.out.err, heap_on hbb H96.out, heap_on hbb H10.out, OwnS.nil _ _ _, fun g e => by cases e⟩)
    have HBX := Lib.hid (Boxed.new w6 42 (.slice sp len cap)).cell
    have HB7 := Lib.hid (HB6.out.trans (hbb.mono HB6.out.size))
    have hsz : (w6.alloc (.cells #[.slice sp len cap] 42)).heap.size = w6.heap.size + 1 := by simp
    have hn0 : w.heap.size ≤ w6.heap.size := HB6.out.size
    obtain ⟨gb, hgb⟩ : ∃ gb, gb = w6.heap.size := ⟨_, rfl⟩
    rw [← hgb] at HOD HAR HBX hsz hn0 ⊢
    clear hbb hgb HF6 H96 H10 HB6 HLT HL10
    generalize w6.alloc (.cells #[.slice sp len cap] 42) = W0 at HAR HBX HB7 hsz ⊢
    refine wpIn_rangeFunc_ownG rfl h1 (gf := 27) (lb := #[.pointer (some ⟨gb, 0, none⟩)]) rfl trivial (enters_of Try.func27 (by kernel_rfl) rfl)
      (bitsOf_stops (6 - 1) (by omega) gb w.heap.size gb (gb + 1) sp len cap q HQ.out (fun hl x e => HS.out.lt (by rw [HQ.out]; exact hl) x e) h63 (Nat.le_refl _) (by omega) W0 (by omega) HBX.out (HS.out.below HB7.out))
      kpB_t (kpB_b (by omega) (by omega)) (Below.refl _ _) (fun _ => rfl)
      (AllI w L1 ct g9 g10 gb M) (AllX w L1 ct g9 g10 gb M) (AllI.turn (by omega)) (AllX.turn (by omega))
      ⟨⟨none, 0, 0, 0, [], trivial, rfl, HPRE.out, HAR.out, by omega⟩, HB7.out⟩
      (fun x => _) (fun l x W K hK => by gi_wp2; exact hK) ?body ?done ?stop
    case body =>
      rintro l' pre x W ⟨⟨A, cp, c, n, out, hok, hrun, hpre, har, hgbW⟩, hB⟩ hlen
      have HAR1 := Lib.hid har
      have HB1 := Lib.hid hB
      have HOK := Lib.hid hok
      have HRUN := Lib.hid hrun
      have HPR := Lib.hid hpre
      have hom : out.length ≤ pre.length := by
        have h2 := runE_most (l := L1) (pre := pre) (σ := (0, 0, []))
        rw [hrun] at h2
        simpa using h2
      have hoM : out.length ≤ M := by
        have h2 := runE_len (l := L1) (M := M) (pre := pre) (σ := (0, 0, [])) (Nat.zero_le _) hok
        rw [hrun] at h2
        exact h2
      have c6 := har.sym.cell
      have f6 := har.sym.frozen
      have c4 := har.many.cell
      clear har hB hok hrun hpre
      have hx := x.2
      obtain ⟨xb, hxb⟩ : ∃ xb, xb = x.1.1 := ⟨_, rfl⟩
      obtain ⟨xe, hxe0⟩ : ∃ xe, xe = x.1.2 := ⟨_, rfl⟩
      try dsimp only
      rw [← hxb, ← hxe0] at hx ⊢
      have HXB := Lib.hid hxb
      have HXE := Lib.hid hxe0
      clear hxb hxe0
      by_cases hM : out.length = M
      · have hdM : ((out.length : Int) == (M : Int)) = true := beq_iff_eq.2 (by omega)
        have hdN : decide (out.length = M) = true := decide_eq_true hM
        have HM := Lib.hid hM
        clear hM
        gi_wp2
        refine ⟨KeepsFrom.refl _ _, pre, _, rfl, .inl ⟨rfl, ⟨⟨A, cp, c, n, out, HOK.out, HRUN.out, HPR.out, HAR1.out, hgbW⟩, HB1.out⟩, ?_⟩⟩
        rw [HRUN.out]
        exact HM.out
      · have hdM : ((out.length : Int) == (M : Int)) = false := beq_false_of_ne (by omega)
        have hdN : decide (out.length = M) = false := decide_eq_false hM
        have HM := Lib.hid hM
        clear hM
        by_cases hxe : xe = 0
        · have hbb : xb = 0 ∨ xb = 1 := by omega
          have hne : (xe != 0) = false := by rw [hxe]; rfl
          have HXE2 := Lib.hid (show x.1.2 = 0 by rw [← HXE.out]; exact hxe)
          have HOK2 := Lib.hid (okP_snoc HOK.out (by rw [HRUN.out]; exact HM.out) HXE2.out)
          have hrun2 := runE_snoc L1 (0, 0, []) pre x
          rw [HRUN.out, ← HXB.out] at hrun2
          have hnx := fun W => next_call L1 HTL.out (c : Int) n (HPR.out.valid HTL.out) xb hbb W
          rw [← HCT.out] at hnx
          have hsc := sg_size hL1 (c : Int) (n : Int)
          have h9 := HAR1.out.sta
          have h10 := HAR1.out.cts
          have HLE := Lib.hid hlen
          obtain ⟨k6, hk6⟩ : ∃ k6, k6 = out.length := ⟨_, rfl⟩
          rw [← hk6] at c6 hdM
          have HK6 := Lib.hid hk6
          clear hk6
          rcases stp_tell HTL.out HPR.out hbb out with ⟨s, hst, hsp, hs258⟩ | ⟨c2, hst, hsp, hp2⟩
          · rw [hst] at hnx
            rw [hsp] at hrun2
            have HRUN2 := Lib.hid hrun2
            have HNX := Lib.hid hnx
            have hs00 := sg_size hL1 0 0
            clear hst hsp hrun2 hnx hbb hx hxe f6
            gi_upto_region 13 with fail
            clear c4 c6
            gi_upto_region 14 with (first
              | (refine wpListIn_load_row rfl 34 _ rfl g9 rfl 34 (sg L1 (c : Int) (n : Int)) (0, 0) _ h9 Try.underlying34 rfl (stIk hL1 _ _) ?_)
              | (refine wpListIn_load_row rfl 53 _ rfl g10 rfl 53 (xl ct) (0, 0) _ h10 Try.underlying53 rfl (sxtIk hS) ?_)
              | (refine ⟨trivial, ?_⟩; gi_at_call 19; go_must (refine (CallsIn.inRound l' (callsIn_wide.2 (HNX.out _))).mono ?_; rintro e W1 ⟨rfl, hb1⟩))
              | (refine wpListIn_store_row rfl 34 _ _ rfl g9 (sg L1 0 0) rfl rfl 34 (sg L1 (c : Int) (n : Int)) (heap_on hb1 h9) (stIk hL1 0 0) (by rw [hsc, hs00]) (sg_all _ _ _) ?_))
            have HC2 := Lib.hid ((Ch.of_below (S := fun k => k = g9 ∨ A = some k ∨ k = w.heap.size + 1 + 1 ∨ k = w.heap.size + 1 + 1 + 1) hb1).trans (ch_setRow (S := fun k => k = g9 ∨ A = some k ∨ k = w.heap.size + 1 + 1 ∨ k = w.heap.size + 1 + 1 + 1) W1 g9 (sg L1 0 0) (.inl rfl)) (fun _ _ e => e))
            have HAR2 := Lib.hid ((HAR1.out.below hb1).row9 HOD.out (sg L1 0 0))
            have hgb2 : gb < (W1.setRow g9 (sg L1 0 0)).heap.size := Nat.lt_of_lt_of_le hgbW HC2.out.size
            clear hb1 h9 h10
            generalize W1.setRow g9 (sg L1 0 0) = W2 at HC2 HAR2 hgb2 ⊢
            have c6 := HAR2.out.sym.cell
            have hkm : k6 ≤ 1000000 := by have := HK6.out; omega
            rw [← HK6.out] at c6
            gi_upto_region 16 with (gi_at_builtin; go_must (
              refine wpListIn_appendI rfl _ _ 42 rfl 3 .i64 8 intsT12 intI12 A cp out k6 HK6.out.symm rfl (HAR2.out.own.alloc _) (some ⟨W2.heap.size, 0, none⟩) 1 1 rfl [(s : Int)] rfl (Src.one (Boxed.new W2 3 (.int .i64 s)).cell) (by unfold maxLen; omega) (by omega) ?_
              intro A2 cp2 W4 hown hgr halt
              have HA3 := Lib.hid (HAR2.out.below (below_al W2 (.cells #[.int .i64 s] 3)))
              have HA4 := Lib.hid (HA3.out.more HOD.out hown hgr halt (by simp; omega))
              have HC4 := Lib.hid ((HC2.out.alloc (.cells #[.int .i64 s] 3)).grown hgr (fun g hg => .inl (.inr (.inl hg))))
              have hgb4 : gb < W4.heap.size := Nat.lt_of_lt_of_le hgb2 (Nat.le_trans (by simp) hgr.size)
              have c64 := HA4.out.sym.cell
              have f64 := HA4.out.sym.frozen
              clear hown hgr halt c6))
            have HA5 := Lib.hid (HA4.out.set6 HOD.out (.slice (ad0 A2) (k6 + 1) cp2))
            have HC5 := Lib.hid (HC4.out.setCell ⟨w.heap.size + 1 + 1, 0, none⟩ (.slice (ad0 A2) (k6 + 1) cp2) (.inl (.inr (.inr (.inl rfl)))))
            have hgb5 : gb < (W4.setCell ⟨w.heap.size + 1 + 1, 0, none⟩ (.slice (ad0 A2) (k6 + 1) cp2)).heap.size := Nat.lt_of_lt_of_le hgbW HC5.out.size
            clear c64 f64
            generalize W4.setCell ⟨w.heap.size + 1 + 1, 0, none⟩ (.slice (ad0 A2) (k6 + 1) cp2) = W5 at HA5 HC5 hgb5 ⊢
            have c7 := HA5.out.cnt.cell
            have f7 := HA5.out.cnt.frozen
            have HA6 := Lib.hid (HA5.out.set7 HOD.out (.int .i64 ((pre ++ [x]).length : Int)))
            rw [List.length_append, List.length_singleton] at HA6
            have HC6 := Lib.hid (HC5.out.setCell ⟨w.heap.size + 1 + 1 + 1, 0, none⟩ (.int .i64 ((pre.length : Int) + 1)) (.inl (.inr (.inr (.inr rfl)))))
            have hp1 : pre.length ≤ 1000000 := by omega
            have hw1 : IntKind.i64.wrap ((pre.length : Int) + 1) = (pre.length : Int) + 1 := by rw [IntKind.wrap_i64]; omega
            obtain ⟨np, hnp⟩ : ∃ np, np = pre.length := ⟨_, rfl⟩
            rw [← hnp] at c7 HA6 HC6 hp1 hw1
            have HNP := Lib.hid hnp
            clear hnp hlen hom hoM
            gi_wp2
            obtain ⟨k1, k2⟩ := HAR1.out.left HOD.out HB1.out.size hgbW HC6.out
            refine ⟨k1.from _, k2, ⟨A2, cp2, 0, 0, out ++ [(s : Int)], HOK2.out, HRUN2.out, HPRE.out, ?_, Nat.lt_of_lt_of_le hgbW HC6.out.size⟩, HB1.out.trans (k2.1)⟩
            have e1 : (out ++ [(s : Int)]).length = k6 + 1 := by rw [HK6.out, List.length_append]; rfl
            have e2 : (pre ++ [x]).length = np + 1 := by rw [HNP.out, List.length_append]; rfl
            rw [e1, e2]
            exact HA6.out
          · rw [hst] at hnx
            rw [hsp] at hrun2
            have HRUN2 := Lib.hid hrun2
            have HNX := Lib.hid hnx
            have HPR2 := Lib.hid hp2
            have hs00 := sg_size hL1 (c2 : Int) ((n + 1 : Nat) : Int)
            clear hst hsp hrun2 hnx hbb hx hxe f6 hp2
            obtain ⟨n2, hn2⟩ : ∃ n2, n2 = n + 1 := ⟨_, rfl⟩
            rw [← hn2] at HRUN2 HNX HPR2 hs00
            clear hn2
            gi_upto_region 13 with fail
            clear c4 c6
            gi_upto_region 14 with (first
              | (refine wpListIn_load_row rfl 34 _ rfl g9 rfl 34 (sg L1 (c : Int) (n : Int)) (0, 0) _ h9 Try.underlying34 rfl (stIk hL1 _ _) ?_)
              | (refine wpListIn_load_row rfl 53 _ rfl g10 rfl 53 (xl ct) (0, 0) _ h10 Try.underlying53 rfl (sxtIk hS) ?_)
              | (refine ⟨trivial, ?_⟩; gi_at_call 19; go_must (refine (CallsIn.inRound l' (callsIn_wide.2 (HNX.out _))).mono ?_; rintro e W1 ⟨rfl, hb1⟩))
              | (refine wpListIn_store_row rfl 34 _ _ rfl g9 (sg L1 (c2 : Int) (n2 : Int)) rfl rfl 34 (sg L1 (c : Int) (n : Int)) (heap_on hb1 h9) (stIk hL1 _ _) (by rw [hsc, hs00]) (sg_all _ _ _) ?_))
            have HC2 := Lib.hid ((Ch.of_below (S := fun k => k = g9 ∨ A = some k ∨ k = w.heap.size + 1 + 1 ∨ k = w.heap.size + 1 + 1 + 1) hb1).trans (ch_setRow (S := fun k => k = g9 ∨ A = some k ∨ k = w.heap.size + 1 + 1 ∨ k = w.heap.size + 1 + 1 + 1) W1 g9 (sg L1 (c2 : Int) (n2 : Int)) (.inl rfl)) (fun _ _ e => e))
            have HAR2 := Lib.hid ((HAR1.out.below hb1).row9 HOD.out (sg L1 (c2 : Int) (n2 : Int)))
            have hgb2 : gb < (W1.setRow g9 (sg L1 (c2 : Int) (n2 : Int))).heap.size := Nat.lt_of_lt_of_le hgbW HC2.out.size
            clear hb1 h9 h10
            generalize W1.setRow g9 (sg L1 (c2 : Int) (n2 : Int)) = W5 at HC2 HAR2 hgb2 ⊢
            have c7 := HAR2.out.cnt.cell
            have f7 := HAR2.out.cnt.frozen
            have HA6 := Lib.hid (HAR2.out.set7 HOD.out (.int .i64 ((pre ++ [x]).length : Int)))
            rw [List.length_append, List.length_singleton] at HA6
            have HC6 := Lib.hid (HC2.out.setCell ⟨w.heap.size + 1 + 1 + 1, 0, none⟩ (.int .i64 ((pre.length : Int) + 1)) (.inl (.inr (.inr (.inr rfl)))))
            have hp1 : pre.length ≤ 1000000 := by omega
            have hw1 : IntKind.i64.wrap ((pre.length : Int) + 1) = (pre.length : Int) + 1 := by rw [IntKind.wrap_i64]; omega
            obtain ⟨np, hnp⟩ : ∃ np, np = pre.length := ⟨_, rfl⟩
            rw [← hnp] at c7 HA6 HC6 hp1 hw1
            have HNP := Lib.hid hnp
            clear hnp hlen hom hoM
            gi_wp2
            obtain ⟨k1, k2⟩ := HAR1.out.left HOD.out HB1.out.size hgbW HC6.out
            refine ⟨k1.from _, k2, ⟨A, cp, c2, n2, out, HOK2.out, HRUN2.out, HPR2.out, ?_, Nat.lt_of_lt_of_le hgbW HC6.out.size⟩, HB1.out.trans (k2.1)⟩
            have e2 : (pre ++ [x]).length = np + 1 := by rw [HNP.out, List.length_append]; rfl
            rw [e2]
            exact HA6.out
        · have hne : (xe != 0) = true := bne_iff_ne.2 hxe
          have HNE := Lib.hid hxe
          have h6 := HAR1.out.set6 HOD.out (.slice none 0 0)
          have h7 := h6.set7 HOD.out (.int .i64 0)
          have H8 := Lib.hid (h7.set8 HOD.out (.int .i64 xe))
          have c7 := h6.cnt.cell
          have f7 := h6.cnt.frozen
          have c8 := h7.err.cell
          have f8 := h7.err.frozen
          have HKP := Lib.hid ((KeepsOthers.setCell W ⟨w.heap.size + 1 + 1, 0, none⟩ (.slice none 0 0)).trans ((KeepsOthers.setCell _ ⟨w.heap.size + 1 + 1 + 1, 0, none⟩ (.int .i64 0)).trans (KeepsOthers.setCell _ ⟨w.heap.size + 1 + 1 + 1 + 1, 0, none⟩ (.int .i64 xe))))
          have HB2 := Lib.hid (((HB1.out.setCell (p := ⟨w.heap.size + 1 + 1, 0, none⟩) (by simp; omega) (.slice none 0 0)).setCell (p := ⟨w.heap.size + 1 + 1 + 1, 0, none⟩) (by simp; omega) (.int .i64 0)).setCell (p := ⟨w.heap.size + 1 + 1 + 1 + 1, 0, none⟩) (by simp; omega) (.int .i64 xe))
          clear h6 h7 hxe hx
          gi_wp2
          refine ⟨HKP.out.from _, pre, _, rfl, .inr ⟨rfl, HOK.out, ?_, ?_, ⟨A, cp, sg L1 (c : Int) (n : Int), out, ?_⟩, HB2.out⟩⟩
          · rw [HRUN.out]
            exact HM.out
          · rw [← HXE.out]
            exact HNE.out
          · rw [← HXE.out]
            exact H8.out
    case done =>
      rintro D ys W hD rfl ⟨⟨A, cp, c, n, out, hok, _⟩, _⟩ hK
      exact absurd hok (ok_not_all L1 M q (0, 0, []))
    case stop =>
      rintro D k pre' W hD hp ⟨pre, x, rfl, hx⟩ hK
      rcases hx with ⟨rfl, ⟨⟨A, cp, c, n, out, hok, hrun, _, har, _⟩, hB⟩, hM⟩ | ⟨rfl, hok, hM, hne, ⟨A, cp, s9, out, har⟩, hB⟩
      · have hend := (al_end L1 M x pre (0, 0, []) 0 q (Nat.zero_le _) hok hp).1 hM
        rw [hrun] at hend
        have HEND := Lib.hid (show R = (out, (pre.length : Int), 0) by rw [HRR.out, Int.toNat_natCast]; simpa using hend)
        have HAR1 := Lib.hid har
        have HB1 := Lib.hid hB
        have HK1 := Lib.hid hK
        have h6 := har.set6 HOD.out (.slice (ad0 A) out.length cp)
        have h7 := h6.set7 HOD.out (.int .i64 (pre.length : Int))
        have H8 := Lib.hid (h7.set8 HOD.out (.int .i64 0))
        have c6 := har.sym.cell
        have f6 := har.sym.frozen
        have c7 := har.cnt.cell
        have c7b := h6.cnt.cell
        have f7 := h6.cnt.frozen
        have c8 := h7.err.cell
        have f8 := h7.err.frozen
        have HKP := Lib.hid ((KeepsOthers.setCell W ⟨w.heap.size + 1 + 1, 0, none⟩ (.slice (ad0 A) out.length cp)).trans ((KeepsOthers.setCell _ ⟨w.heap.size + 1 + 1 + 1, 0, none⟩ (.int .i64 (pre.length : Int))).trans (KeepsOthers.setCell _ ⟨w.heap.size + 1 + 1 + 1 + 1, 0, none⟩ (.int .i64 0))))
        have HB2 := Lib.hid (((HB1.out.setCell (p := ⟨w.heap.size + 1 + 1, 0, none⟩) (by simp; omega) (.slice (ad0 A) out.length cp)).setCell (p := ⟨w.heap.size + 1 + 1 + 1, 0, none⟩) (by simp; omega) (.int .i64 (pre.length : Int))).setCell (p := ⟨w.heap.size + 1 + 1 + 1 + 1, 0, none⟩) (by simp; omega) (.int .i64 0))
        clear har hB hK h6 h7 hend hrun hok hp hM
        gi_wp2
        have hmix : Try.prog.follows .mixedOrders = true := by kernel_rfl
        gi_region_o
        all_goals gi_wp2
        all_goals (
          have HA9 := Lib.hid (H8.out.below (Below.refl _ _).drew)
          have HK9 := Lib.hid ((KeepsOthers.drew HKP.out).same D _ HK1.out rfl)
          have HB9 := Lib.hid HB2.out.drew
          clear H8 HKP HB2 c6 f6 c7 c7b f7 c8 f8
          generalize (((W.setCell ⟨w.heap.size + 1 + 1, 0, none⟩ (.slice (ad0 A) out.length cp)).setCell ⟨w.heap.size + 1 + 1 + 1, 0, none⟩ (.int .i64 (pre.length : Int))).setCell ⟨w.heap.size + 1 + 1 + 1 + 1, 0, none⟩ (.int .i64 0)).drew = W9 at HA9 HK9 HB9 ⊢
          refine ⟨by simp, .inl ⟨_, _, rfl, run_takeDeferred HK9.out, ?_⟩⟩
          have hA := HA9.out.turn (grownBy_putObj' W9 D (.deferred none)) (fun r e => by injection e with e; subst e; exact ⟨_, HK9.out, rfl⟩)
          have d6 := hA.sym.cell
          have d7 := hA.cnt.cell
          have d8 := hA.err.cell
          exact ⟨.tuple #[.slice (ad0 A) out.length cp, .int .i64 (pre.length : Int), .int .i64 0], by simp [results, Try.results10, go_sem, d6, d7, d8], A, cp, by rw [HEND.out], by rw [HEND.out]; exact hA.own.src, HB9.out.grown (grownBy_putObj' W9 D _) HB9.out.size (fun k e => by injection e with e; omega)⟩)
      · have hend := (al_end L1 M x pre (0, 0, []) 0 q (Nat.zero_le _) hok hp).2 hM hne
        have HEND := Lib.hid (show R = ([], 0, x.1.2) by rw [HRR.out, Int.toNat_natCast]; simpa using hend)
        have HAR1 := Lib.hid har
        have HB1 := Lib.hid hB
        have HK1 := Lib.hid hK
        clear har hB hK hend hok hp hM
        gi_wp2
        refine ⟨by simp, .inl ⟨_, _, rfl, run_takeDeferred HK1.out, ?_⟩⟩
        have hA := HAR1.out.turn (grownBy_putObj' W D (.deferred none)) (fun r e => by injection e with e; subst e; exact ⟨_, HK1.out, rfl⟩)
        have d6 := hA.sym.cell
        have d7 := hA.cnt.cell
        have d8 := hA.err.cell
        exact ⟨.tuple #[.slice none 0 0, .int .i64 0, .int .i64 x.1.2], by simp [results, Try.results10, go_sem, d6, d7, d8], none, 0, by rw [HEND.out]; rfl, by rw [HEND.out]; exact Src.nil _ _ _, HB1.out.grown (grownBy_putObj' W D _) HB1.out.size (fun k e => by injection e with e; omega)⟩
  · exact absurd hgo0 hgo
end Go.Proofs.Ytbegpakjojiblab
