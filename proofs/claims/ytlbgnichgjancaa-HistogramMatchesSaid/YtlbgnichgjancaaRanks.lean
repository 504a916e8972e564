/- Ranks, over what pdqsort_func gives. -/
import Derived.Test.YtlbgnichgjancaaPq
import Derived.Test.YtlbgnichgjancaaHgA
import Derived.Laws.MakeOwn
set_option linter.unusedVariables false
set_option linter.unusedSimpArgs false
namespace Go.Proofs.Ytlbgnichgjancaa
open Go.RowKit Go.Sort

theorem WinS.setAt {w : World} {k : IntKind} {E : TypeId} {g o c : Nat} {l : List Int} (h : WinS w k E (some ⟨g, o, none⟩) c l) (j : Nat) (hj : j < l.length) (x : Int) : WinS (w.setCell ⟨g, o + j, none⟩ (.int k x)) k E (some ⟨g, o, none⟩) c (l.set j x) := by
  rcases h with ⟨e, _⟩ | ⟨g', o', cur, e, h1, h2, h3, h4, h5⟩
  · cases e
  · injection e with e
    injection e with e1 e2 _
    subst e1 e2
    refine .inr ⟨g, o, cur.setIfInBounds (o + j) (.int k x), rfl, by simp [World.setCell, Array.getElem?_modify, h1], by rw [List.length_set]; exact h2, h3, by simpa using h4, fun i hi => ?_⟩
    rw [List.length_set] at hi
    rw [Array.getElem?_setIfInBounds, List.getD_eq_getElem?_getD, List.getElem?_set]
    by_cases e : j = i
    · subst e
      rw [if_pos rfl, if_pos rfl, if_pos hj, if_pos (by omega)]
      rfl
    · rw [if_neg (by omega), if_neg e, h5 i hi, List.getD_eq_getElem?_getD]
/-- A new row of pairs. -/
def zrow (n : Nat) : Array Value := madeCells #[.int .i64 0, .int .i64 0] (n * 2)
theorem zrow_size (n : Nat) : (zrow n).size = n * 2 := size_madeCells _ _
theorem zrow_get (n i : Nat) (h : i < n * 2) : (zrow n)[i]? = some (.int .i64 0) := by
  unfold zrow madeCells
  rw [Array.getElem?_map, Array.getElem?_range, if_pos h]
  have : i % 2 = 0 ∨ i % 2 = 1 := by omega
  rcases this with e | e <;> simp [e]
theorem run_mkRow (n : Nat) (hn : n ≤ 1000000) (w : World) : (Instr.makeSlice 43 (.int .i64 n) (.int .i64 n)).run Try.prog w = .ok (.slice (some ⟨w.heap.size, 0, none⟩) n n) (w.alloc (.cells (zrow n) 45)) := by
  have hz : rkE.zero = some (.agg #[.int .i64 0, .int .i64 0]) := by kernel_rfl
  have hby : rkE.bytes = 16 := by kernel_rfl
  have h := run_make (P := Try.prog) w 43 45 rkE _ Try.underlying43 (by kernel_rfl) hz .i64 .i64 n n (by omega) (by omega) (by rw [hby]; omega) (by omega)
  rw [rkS] at h
  simpa [zrow, Value.cells] using h
theorem Row.made (w : World) (n : Nat) : Row w.heap.size n (Array.replicate n (0, 0)) (w.alloc (.cells (zrow n) 45)) := by
  refine ⟨Array.size_replicate, zrow n, 45, heap_alloc_new w _, zrow_size n, fun i hi => ?_⟩
  have e : (Array.replicate n ((0 : Int), (0 : Int)))[i]! = (0, 0) := by simp [hi]
  rw [e]
  exact ⟨zrow_get n _ (by omega), zrow_get n _ (by omega)⟩

/-- The pairs that are sorted. -/
def prs (l : List Int) : List (Int × Int) := (usedV l).map fun s => (s, l.getD s.toNat 0)
/-- A row that Ranks returns. -/
def IsRanks (l q : List Int) : Prop := ∃ d' : Array (Int × Int), PermIn 0 (usedV l).length (prs l).toArray d' ∧ SortedIn rlt 0 (usedV l).length d' ∧ q = d'.toList.map (·.1)
theorem usedV_at (l : List Int) (i : Nat) (hi : i < (usedV l).length) : ∃ s : Nat, (usedV l).getD i 0 = s ∧ s < 258 := by
  have hm : (usedV l)[i] ∈ usedV l := List.getElem_mem hi
  have e : (usedV l).getD i 0 = (usedV l)[i] := by simp [List.getD_eq_getElem?_getD, hi]
  rw [e]
  unfold usedV at hm ⊢
  split at hm
  · rename_i hv
    simp only [if_pos hv]
    unfold usedL at hm
    rw [List.mem_map] at hm
    obtain ⟨s, hs, he⟩ := hm
    unfold usedN at hs
    rw [List.mem_filter, List.mem_range] at hs
    exact ⟨s, he.symm, hs.1⟩
  · cases hm
/-- The first k pairs of d are in place. -/
def Fil (l u : List Int) (k : Nat) (d : Array (Int × Int)) : Prop := ∀ i, i < k → d[i]! = (u.getD i 0, l.getD (u.getD i 0).toNat 0)
theorem Fil.step {l u : List Int} {k n : Nat} {d : Array (Int × Int)} (h : Fil l u k d) (hk : k < n) (hd : d.size = n) {s : Nat} (hs : u.getD k 0 = s) : Fil l u (k + 1) (d.setIfInBounds k ((s : Int), l.getD s 0)) := by
  intro i hi
  rw [getElem!_def, Array.getElem?_setIfInBounds]
  by_cases e : k = i
  · subst e
    rw [if_pos rfl, if_pos (by omega), hs]
    rfl
  · rw [if_neg e]
    have := h i (by omega)
    rw [getElem!_def] at this
    exact this
theorem Fil.all {l : List Int} {d : Array (Int × Int)} (h : Fil l (usedV l) (usedV l).length d) (hd : d.size = (usedV l).length) : d = (prs l).toArray := by
  apply Array.ext
  · simp [prs, hd]
  · intro i h1 h2
    have e := h i (by omega)
    rw [getElem!_pos d i h1] at e
    rw [e]
    have hi : i < (usedV l).length := by omega
    simp [prs, List.getD_eq_getElem?_getD, hi]

/-- Behind the sort: the first k symbols have been written. -/
structure Wr2 (w : World) (a : Option Addr) (c g n : Nat) (d : Array (Int × Int)) (k : Nat) (q : List Int) (wr : World) : Prop where
  len : q.length = n
  done : ∀ i, i < k → q.getD i 0 = d[i]!.1
  ns : NewS w wr a c q
  row : Row g n d wr
  ne : ∀ y, blk a = some y → y ≠ g
theorem Wr2.all {w : World} {a : Option Addr} {c g n : Nat} {d : Array (Int × Int)} {q : List Int} {wr : World} (h : Wr2 w a c g n d n q wr) : q = d.toList.map (·.1) := by
  apply List.ext_getElem?
  intro i
  by_cases hi : i < n
  · have e := h.done i hi
    have hs := h.row.1
    have hl := h.len
    rw [getElem!_pos d i (by omega)] at e
    rw [List.getD_eq_getElem?_getD, List.getElem?_eq_getElem (by omega), Option.getD_some] at e
    rw [List.getElem?_eq_getElem (by omega), e, List.getElem?_map, Array.getElem?_toList, Array.getElem?_eq_getElem (by omega)]
    rfl
  · rw [List.getElem?_eq_none (by rw [h.len]; omega), List.getElem?_eq_none (by rw [List.length_map, Array.length_toList, h.row.1]; omega)]
theorem Wr2.on {w : World} {a : Option Addr} {c g n : Nat} {d : Array (Int × Int)} {k : Nat} {q : List Int} {wr w' : World} (h : Wr2 w a c g n d k q wr) (hb : Below wr.heap.size wr w') : Wr2 w a c g n d k q w' :=
  ⟨h.len, h.done, h.ns.on hb, h.row.on hb, h.ne⟩
theorem Wr2.step {w : World} {y o c g n : Nat} {d : Array (Int × Int)} {k : Nat} {q : List Int} {wr : World} (h : Wr2 w (some ⟨y, o, none⟩) c g n d k q wr) (hk : k < n) :
    Wr2 w (some ⟨y, o, none⟩) c g n d (k + 1) (q.set k d[k]!.1) (wr.setCell ⟨y, o + k, none⟩ (.int .i64 d[k]!.1)) := by
  have hy := h.ns.new y rfl
  have hyg := h.ne y rfl
  refine ⟨by rw [List.length_set]; exact h.len, fun i hi => ?_, ⟨h.ns.win.setAt k (by rw [h.len]; exact hk) _, h.ns.new, h.ns.bel.setCell (p := ⟨y, o + k, none⟩) hy _⟩, h.row.ch ((Ch.refl (fun k => k = y) wr).setCell _ _ (.inl rfl)) (fun e => hyg e.symm), h.ne⟩
  rw [List.getD_eq_getElem?_getD, List.getElem?_set]
  by_cases e : k = i
  · subst e
    rw [if_pos rfl, if_pos (by rw [h.len]; exact hk)]
    rfl
  · rw [if_neg e, ← List.getD_eq_getElem?_getD]
    exact h.done i (by omega)

set_option maxRecDepth 100000 in
set_option maxHeartbeats 1000000 in
theorem ranks_call (l : List Int) (h : Tal l) (hp : PdqOk (usedV l).length) (w : World) :
    Calls Try.prog 19 #[.agg (tl l)] w fun e w' => ∃ a c q, e = .returned (.slice a q.length c) ∧ IsRanks l q ∧ NewS w w' a c q := by
  have hul := usedV_le l
  have HA := Lib.hid (usedV_at l)
  have HFA := Lib.hid (fun (d : Array (Int × Int)) => Fil.all (l := l) (d := d))
  have HU := fun (w : World) => used_call l h w
  have HIR : RowKit.Hid (∀ (d' : Array (Int × Int)), PermIn 0 (usedV l).length (prs l).toArray d' → SortedIn rlt 0 (usedV l).length d' → IsRanks l (d'.toList.map (·.1))) := Lib.hid (fun d' h1 h2 => ⟨d', h1, h2, rfl⟩)
  generalize prs l = PR at HFA HIR
  generalize usedV l = u at hul HA HFA HU HIR hp
  obtain ⟨n, hn⟩ : ∃ n, n = u.length := ⟨_, rfl⟩
  rw [← hn] at hul HA HFA HU HIR hp
  have HN := Lib.hid hn
  have HP := Lib.hid hp
  clear hn hp
  go_enter Try.func19, Try.ntmps19
  go_upto_region 1 with fail
  have hg := heap_alloc_last w (.cells (tl l) 23)
  have hb := (Below.refl w.heap.size w).alloc (Nat.le_refl _) (.cells (tl l) 23)
  generalize w.alloc (.cells (tl l) 23) = w1 at hg hb ⊢
  have HB := Lib.hid hb
  have hu := HU w1
  clear hb HU
  go_wp2_with (refine wpList_load_row rfl 23 _ rfl w.heap.size rfl 23 (tl l) (0, 0) _ hg Try.underlying23 rfl (talIk h) ?_)
  refine hu.mono ?_
  rintro e w2 ⟨a, c, rfl, hN⟩
  go_upto_region 2 with fail
  have hg2 := heap_on hN.bel hg
  have HNS := Lib.hid hN
  have HG1 := Lib.hid hg
  have hmk := run_mkRow n (by omega) w2
  clear hN hg hu
  go_wp2_with fail
  have hR0 : RI w2.heap.size n (w2.heap.size + 1) (Array.replicate n (0, 0)) ((w2.alloc (.cells (zrow n) 45)).alloc (.cells #[.slice (some ⟨w2.heap.size, 0, none⟩) n n] 43)) :=
    ⟨(Row.made w2 n).on ((Below.refl _ _).alloc (Nat.le_refl _) _), by simp, by omega⟩
  have hb3 : Below w2.heap.size w2 ((w2.alloc (.cells (zrow n) 45)).alloc (.cells #[.slice (some ⟨w2.heap.size, 0, none⟩) n n] 43)) := ((Below.refl _ _).alloc (Nat.le_refl _) _).alloc (by simp) _
  generalize (w2.alloc (.cells (zrow n) 45)).alloc (.cells #[.slice (some ⟨w2.heap.size, 0, none⟩) n n] 43) = w3 at hR0 hb3 ⊢
  have hN3 : NewS w w3 a c u := ⟨(HNS.out.on hb3).win, (fun y e => Nat.le_trans HB.out.size (HNS.out.new y e)), HB.out.trans ((HNS.out.on hb3).bel.mono HB.out.size)⟩
  have hg3 := heap_on hb3 hg2
  obtain ⟨G, hG⟩ : ∃ G, G = w2.heap.size := ⟨_, rfl⟩
  have hwG : w.heap.size < G := by rw [hG]; exact (Array.getElem?_eq_some_iff.1 hg2).1
  have hyG : ∀ y, blk a = some y → y < G := fun y e => by rw [hG]; exact HNS.out.win.lt e
  rw [← hG] at hR0 ⊢
  have HR0 := Lib.hid hR0
  have HN3 := Lib.hid hN3
  have HY := Lib.hid hyG
  clear hR0 hN3 hyG hG hmk hg2 hb3 HNS HG1 HB
  go_loopw [16] (fun vi wr => ∃ (k : Nat) (d : Array (Int × Int)), k ≤ n ∧ vi = .int .i64 k ∧ Fil l u k d ∧ RI G n (G + 1) d wr ∧ On G w3 wr) (fun vi _ => n - (intOf vi).toNat)
  case atStart => exact ⟨0, _, by omega, rfl, (fun i hi => by omega), HR0.out, On.refl _ _⟩
  case round =>
    obtain ⟨k, d, hk, rfl, hF, hRI, hon⟩ := hrel
    have HF := Lib.hid hF
    have HRI := Lib.hid hRI
    have HON := Lib.hid hon
    have pc := hRI.2.1
    have hgr : wr.heap[w.heap.size]? = some (.cells (tl l) 23 (0, 0)) := Ch.heap hon hg3 (by omega)
    have hW : WinS wr .i64 3 a c u := HN3.out.win.ch hon (fun y e => by have := HY.out y e; omega)
    have HGR := Lib.hid hgr
    have HW := Lib.hid hW
    clear hF hRI hon hgr hW hg3
    by_cases hlt : k < n
    · obtain ⟨s, hs, hs8⟩ := HA.out k hlt
      have hT := tl_cell HGR.out h s hs8
      obtain ⟨sg, so, hspe, hcell⟩ := HW.out.src.get (j := k) (by rw [← HN.out]; exact hlt)
      subst hspe
      rw [hs] at hcell
      have r0 := HRI.out.1.c0 k hlt
      have r1 := HRI.out.1.c1 k hlt
      have f0 := HRI.out.1.f (k * 2)
      have f1 := HRI.out.1.f (k * 2 + 1)
      have hR1 := HRI.out.1.set k hlt s (l.getD s 0)
      have HST := Lib.hid (HF.out.step hlt HRI.out.1.1 hs)
      have HRN := Lib.hid hR1
      clear hR1 hs
      generalize l.getD s 0 = T at hT HST HRN
      generalize d[k]!.1 = X at r0
      generalize d[k]!.2 = Y at r1
      go_upto_region 6 with fail
      go_region
      go_wp2_with fail
      have hon4 := (Ch.setCell (a := ⟨G, k * 2 + 1, none⟩) (Ch.setCell (a := ⟨G, k * 2, none⟩) (Ch.refl (fun y => y = G) wr) (.int .i64 s) (.inl rfl)) (.int .i64 T) (.inl rfl)).drew
      exact ⟨⟨k + 1, _, by omega, by go_num, HST.out, HRI.out.swap hon4 (HRN.out.on (Below.refl _ _).drew), HON.out.trans hon4⟩, by simp [intOf]; omega⟩
    · obtain rfl : k = n := by omega
      have hd := HFA.out d HF.out HRI.out.1.1
      have hsl := slice_call G k (G + 1) d wr HRI.out (by omega) HP.out
      subst hd
      have HBW : RowKit.Hid (Below w.heap.size w wr) := Lib.hid (HN3.out.bel.trans (HON.out.below HN3.out.bel.size (fun y e => by subst e; omega)))
      clear HFA HF hk hlt HGR
      go_wp2_with fail
      refine hsl.mono ?_
      rintro e w5 ⟨rfl, d', hon5, hRI5, hperm, hsort⟩
      have HPS := Lib.hid (HIR.out d' hperm hsort)
      have hQ : Wr2 w a c G k d' 0 u w5 :=
        ⟨HN.out.symm, (fun i hi => by omega), ⟨HW.out.ch hon5 (fun y e => by have := HY.out y e; omega), HN3.out.new, HBW.out.trans (hon5.below HBW.out.size (fun y e => by subst e; omega))⟩, hRI5.1, fun y e => by have := HY.out y e; omega⟩
      have HQ := Lib.hid hQ
      have pc5 := hRI5.2.1
      clear pc hperm hsort hon5 hRI5 hQ hsl
      go_wp2_with fail
      go_loopw [36] (fun vi wy => ∃ (k2 : Nat) (q : List Int), k2 ≤ k ∧ vi = .int .i64 k2 ∧ Wr2 w a c G k d' k2 q wy) (fun vi _ => k - (intOf vi).toNat)
      case atStart => exact ⟨0, u, by omega, rfl, HQ.out⟩
      case round =>
        obtain ⟨k2, q, hk2, rfl, hq⟩ := hrel
        have HQ2 := Lib.hid hq
        clear hq pc5
        by_cases hlt : k2 < k
        · obtain ⟨sg, so, hspe, hcell⟩ := HQ2.out.ns.win.src.get (j := k2) (by rw [HQ2.out.len]; exact hlt)
          subst hspe
          have r0 := HQ2.out.row.c0 k2 hlt
          have r1 := HQ2.out.row.c1 k2 hlt
          have hfz : wr.frozen? ⟨sg, so + k2, none⟩ = false := by
            obtain ⟨cur, hcur⟩ := HQ2.out.ns.win.row rfl
            simp [World.frozen?, hcur]
          have HST := Lib.hid ((HQ2.out.on ((Below.refl _ _).alloc (Nat.le_refl _) (.cells #[.int .i64 d'[k2]!.1, .int .i64 d'[k2]!.2] 45))).step hlt)
          generalize d'[k2]!.1 = X at r0 HST
          generalize d'[k2]!.2 = Y at r1 HST
          generalize q.getD k2 0 = Z at hcell
          have hA : Below wr.heap.size wr (wr.alloc (.cells #[.int .i64 X, .int .i64 Y] 45)) := (Below.refl _ _).alloc (Nat.le_refl _) _
          have hcell2 := cell_on hA hcell
          have hfz2 : (wr.alloc (.cells #[.int .i64 X, .int .i64 Y] 45)).frozen? ⟨sg, so + k2, none⟩ = false := by
            obtain ⟨cur, hcur⟩ := HQ2.out.ns.win.row rfl
            simp [World.frozen?, heap_on hA hcur]
          clear hA
          go_wp2_with fail
          exact ⟨⟨k2 + 1, _, by omega, by go_num, HST.out⟩, by simp [intOf]; omega⟩
        · obtain rfl : k2 = k := by omega
          go_wp2_with fail
          go_ret
          have e := HQ2.out.all
          exact ⟨a, c, q, by rw [HQ2.out.len]; rfl, by rw [e]; exact HPS.out, HQ2.out.ns⟩
end Go.Proofs.Ytlbgnichgjancaa
