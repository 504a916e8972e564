/- The walk over winepresslaw01.ArenaOverlaps. -/
import Derived.Test.YtfmmachfcfngkaaWords
import Derived.Test.YtfmmachfcfngkaaApp
import Derived.Deep.RegionWith
import Derived.Deep.RegionHeld3
import Derived.Deep.DeepCutAuto
set_option linter.unusedVariables false
set_option linter.unusedSimpArgs false
namespace Go.Proofs.Ytfmmachfcfngkaa
open Go.RowKit

set_option maxRecDepth 100000 in
set_option maxHeartbeats 1000000 in
theorem over_long (a0 : Option Addr) (len0 cap0 : Nat) (sa sn ta tn i c : Int) (w : World) (h : 200 < len0) (h63 : len0 ≤ 9223372036854775807) :
    Calls Try.prog 7 #[.slice a0 len0 cap0, .agg #[.int .i64 sa, .int .i64 sn], .agg #[.int .i64 ta, .int .i64 tn], .int .i64 i, .int .u8 c] w fun e w' => e = .returned (.bool true) ∧ Below w.heap.size w w' := by
  have d : decide ((200 : Int) < (len0 : Int)) = true := by simp; omega
  go_enter Try.func7, Try.ntmps7
  go_wp2_with fail
  refine (wakes_call _).mono ?_
  rintro e w1 ⟨rfl, hb⟩
  go_wp2
  go_ret
  exact ⟨rfl, (((Below.refl _ _).alloc (Nat.le_refl _) _).alloc (by simp) _).trans (hb.mono (by simp; omega))⟩

theorem memSet_length (mem : List Int) (live : Nat) (a n i c : Int) : (memSet mem live a n i c).length = mem.length := by
  unfold memSet
  split
  · rw [List.length_set]
  · rfl

theorem Ar.grown2 {w w' : World} {p q : Nat} {mem : List Int} {live peak : Nat} {r : Option Nat} (h : Ar w p q mem live peak) (hg : w.grownBy w' r) (h1 : some p ≠ r) (h2 : some q ≠ r) : Ar w' p q mem live peak :=
  ⟨by rw [hg.block p h.plt h1]; exact h.hp, by rw [hg.block q h.qlt h2]; exact h.hq, h.ne, h.ll, h.pl, h.small, h.byts⟩
/-- A row of bytes, with whatever behind them. -/
def OwnC (w : World) (g cap : Nat) (l : List Int) : Prop := ∃ cur, w.heap[g]? = some (.cells cur 5 (0, 0)) ∧ cur.size = cap ∧ ∀ j, j < l.length → cur[j]? = some (.int .u8 (l.getD j 0))
theorem OwnC.set {w : World} {g cap : Nat} {l : List Int} (h : OwnC w g cap l) (j : Nat) (c : Int) : OwnC (w.setCell ⟨g, j, none⟩ (.int .u8 c)) g cap (l.set j c) := by
  obtain ⟨cur, hrow, hcs, hcc⟩ := h
  refine ⟨cur.setIfInBounds j (.int .u8 c), by simp [World.setCell, Array.getElem?_modify, hrow], by simpa using hcs, ?_⟩
  intro k hk
  rw [List.length_set] at hk
  rw [Array.getElem?_setIfInBounds]
  have hkc := (Array.getElem?_eq_some_iff.1 (hcc k hk)).1
  by_cases e : j = k
  · subst e
    simp [hk, hkc]
  · rw [if_neg e, hcc k hk]
    simp [e]
theorem OwnC.below {w w' : World} {g cap : Nat} {l : List Int} (h : OwnC w g cap l) (hb : Below w.heap.size w w') : OwnC w' g cap l := by
  obtain ⟨cur, hrow, hcs, hcc⟩ := h
  exact ⟨cur, (hb.block g (Array.getElem?_eq_some_iff.1 hrow).1).trans hrow, hcs, hcc⟩
theorem over_seg (l : List Int) (n : Nat) (hn : n = l.length) (h : n ≤ 200) (a m i c : Int) : seg (memSet (splice (List.replicate 200 0) 0 l) n a m i c) 0 n = memSet l n a m i c := by
  unfold memSet
  by_cases hok : byteOk n a m i = true
  · obtain ⟨a', n', i', rfl, rfl, rfl, h1, h2⟩ := byteOk_yes hok
    rw [if_pos hok, if_pos hok, show ((a' : Int) + (i' : Int)).toNat = a' + i' by omega]
    apply List.ext_getElem?
    intro k
    rw [seg_getElem?, List.getElem?_set, Nat.zero_add, splice_getElem? _ _ _ (by rw [List.length_replicate]; omega), splice_length _ _ _ (by rw [List.length_replicate]; omega), List.getElem?_set, List.length_replicate]
    by_cases hk : k < n
    · rw [if_pos hk]
      by_cases e : a' + i' = k
      · rw [if_pos e, if_pos e, if_pos (by omega), if_pos (by omega)]
      · rw [if_neg e, if_neg e, if_pos (by omega)]
        rfl
    · rw [if_neg hk, if_neg (by omega), List.getElem?_eq_none (by omega)]
  · rw [if_neg hok, if_neg hok]
    subst hn
    exact splice_seg _ _ _ (by rw [List.length_replicate]; omega)

theorem OwnC.str {w : World} {g cap n : Nat} {l : List Int} (h : OwnC w g cap l) (hl : l.length = n) :
    (convert 36 9 (.slice (some ⟨g, 0, none⟩) n cap)).run Try.prog w = .ok (.string (bstr l)) w := by
  obtain ⟨cur, hrow, hcs, hcc⟩ := h
  exact run_bstr (P := Try.prog) sliceT byteT strT w _ n cap l hl (Src.of_cur hrow 0 (fun j hj => by rw [Nat.zero_add]; exact hcc j hj))
theorem over_S {w W : World} {p q n g cap a b : Nat} {mem4 l : List Int} {ta tn : Int} (h1 : Ar W p q mem4 n n) (h2 : OwnC W g cap l) (hl : l.length = n) (h3 : W.cell? ⟨a, 0, none⟩ = some (.int .i64 ta)) (h4 : W.cell? ⟨a, 1, none⟩ = some (.int .i64 tn))
    (h5 : W.cell? ⟨b, 0, none⟩ = some (.int .i64 0)) (h6 : W.cell? ⟨b, 1, none⟩ = some (.int .i64 n)) (h7 : Below w.heap.size w W) :
    Ar W p q mem4 n n ∧ OwnC W g cap l ∧ W.cell? ⟨a, 0, none⟩ = some (.int .i64 ta) ∧ W.cell? ⟨a, 1, none⟩ = some (.int .i64 tn) ∧ W.cell? ⟨b, 0, none⟩ = some (.int .i64 0) ∧ W.cell? ⟨b, 1, none⟩ = some (.int .i64 n) ∧ Below w.heap.size w W ∧
      (convert 36 9 (.slice (some ⟨g, 0, none⟩) n cap)).run Try.prog W = .ok (.string (bstr l)) W :=
  ⟨h1, h2, h3, h4, h5, h6, h7, h2.str hl⟩
theorem over_keep {w W W' : World} {p q n g cap a b : Nat} {mem4 l : List Int} {ta tn : Int} (hl : l.length = n)
    (h : Ar W p q mem4 n n ∧ OwnC W g cap l ∧ W.cell? ⟨a, 0, none⟩ = some (.int .i64 ta) ∧ W.cell? ⟨a, 1, none⟩ = some (.int .i64 tn) ∧ W.cell? ⟨b, 0, none⟩ = some (.int .i64 0) ∧ W.cell? ⟨b, 1, none⟩ = some (.int .i64 n) ∧ Below w.heap.size w W ∧
      (convert 36 9 (.slice (some ⟨g, 0, none⟩) n cap)).run Try.prog W = .ok (.string (bstr l)) W) (hb : Below W.heap.size W W') :
    Ar W' p q mem4 n n ∧ OwnC W' g cap l ∧ W'.cell? ⟨a, 0, none⟩ = some (.int .i64 ta) ∧ W'.cell? ⟨a, 1, none⟩ = some (.int .i64 tn) ∧ W'.cell? ⟨b, 0, none⟩ = some (.int .i64 0) ∧ W'.cell? ⟨b, 1, none⟩ = some (.int .i64 n) ∧ Below w.heap.size w W' ∧
      (convert 36 9 (.slice (some ⟨g, 0, none⟩) n cap)).run Try.prog W' = .ok (.string (bstr l)) W' :=
  over_S (h.1.below hb) (h.2.1.below hb) hl (cell_later hb h.2.2.1) (cell_later hb h.2.2.2.1) (cell_later hb h.2.2.2.2.1) (cell_later hb h.2.2.2.2.2.1) (h.2.2.2.2.2.2.1.trans (hb.mono h.2.2.2.2.2.2.1.size))
/-- The whole text of an arena, as a string. -/
theorem load0 {w : World} {p q n : Nat} {l' : List Int} (mem : List Int) (h : Ar w p q mem n n) (hs : seg mem 0 n = l') (hl : l'.length = n) :
    Calls Try.prog 18 #[.pointer (some ⟨p, 0, none⟩), .agg #[.int .i64 0, .int .i64 n]] w fun e w' =>
      ∃ g : Nat, e = .returned (.slice (some ⟨g, 0, none⟩) n n) ∧ Below w.heap.size w w' ∧ (convert 36 9 (.slice (some ⟨g, 0, none⟩) n n)).run Try.prog w' = .ok (.string (bstr l')) w' := by
  refine (load_yes h 0 n (by simp [hasB]) (by omega)).mono ?_
  rintro e w' ⟨g, rfl, hg, hr, hb⟩
  rw [hs] at hr ⊢
  rw [hl]
  exact ⟨g, rfl, hb, run_bstr (P := Try.prog) sliceT byteT strT w' _ n n l' hl (Src.whole hr)⟩

theorem seg_seg (m : List Int) (n a k : Nat) (h : a + k ≤ n) : seg (seg m 0 n) a k = seg m a k := by
  apply List.ext_getElem?
  intro i
  rw [seg_getElem?, seg_getElem?, seg_getElem?]
  by_cases hi : i < k
  · rw [if_pos hi, if_pos hi, if_pos (by omega), Nat.zero_add]
  · rw [if_neg hi, if_neg hi]
theorem over_keep2 {w W W' : World} {p q n g cap a b a' n' off c1 : Nat} {mem4 l : List Int} {ta tn : Int} (hoff : n' = 0 ∨ off = a') (hal : a' + n' ≤ n) (hl : l.length = n)
    (h : Ar W p q mem4 n n ∧ OwnC W g cap l ∧ W.cell? ⟨a, 0, none⟩ = some (.int .i64 ta) ∧ W.cell? ⟨a, 1, none⟩ = some (.int .i64 tn) ∧ W.cell? ⟨b, 0, none⟩ = some (.int .i64 0) ∧ W.cell? ⟨b, 1, none⟩ = some (.int .i64 n) ∧ Below w.heap.size w W ∧
      (convert 36 9 (.slice (some ⟨g, 0, none⟩) n cap)).run Try.prog W = .ok (.string (bstr l)) W) (hb : Below W.heap.size W W') :
    Ar W' p q mem4 n n ∧ OwnC W' g cap l ∧ W'.cell? ⟨a, 0, none⟩ = some (.int .i64 ta) ∧ W'.cell? ⟨a, 1, none⟩ = some (.int .i64 tn) ∧ W'.cell? ⟨b, 0, none⟩ = some (.int .i64 0) ∧ W'.cell? ⟨b, 1, none⟩ = some (.int .i64 n) ∧ Below w.heap.size w W' ∧
      (convert 36 9 (.slice (some ⟨g, 0, none⟩) n cap)).run Try.prog W' = .ok (.string (bstr l)) W' ∧
      (convert 36 9 (.slice (some ⟨g, off, none⟩) n' c1)).run Try.prog W' = .ok (.string (bstr (seg l a' n'))) W' := by
  obtain ⟨h1, h2, h3, h4, h5, h6, h7, h8⟩ := over_keep hl h hb
  refine ⟨h1, h2, h3, h4, h5, h6, h7, h8, ?_⟩
  obtain ⟨cur, hrow, hcs, hcc⟩ := h2
  refine run_bstr (P := Try.prog) sliceT byteT strT W' _ n' _ _ (seg_length _ _ _ (by omega)) ?_
  rcases hoff with rfl | rfl
  · exact .inl (by simp [seg])
  refine (Src.of_cur hrow _ (fun j hj => ?_))
  rw [seg_length _ _ _ (by omega)] at hj
  rw [hcc _ (by omega), List.getD_eq_getElem?_getD, List.getD_eq_getElem?_getD, seg_getElem?, if_pos hj]
theorem over_fst {A B C D E F G H I : Prop} (h : A ∧ B ∧ C ∧ D ∧ E ∧ F ∧ G ∧ H ∧ I) : A ∧ B ∧ C ∧ D ∧ E ∧ F ∧ G ∧ H := ⟨h.1, h.2.1, h.2.2.1, h.2.2.2.1, h.2.2.2.2.1, h.2.2.2.2.2.1, h.2.2.2.2.2.2.1, h.2.2.2.2.2.2.2.1⟩
/-- A part of an arena, as a string. -/
theorem loadT {w : World} {p q n a k : Nat} {l' : List Int} (mem : List Int) (h : Ar w p q mem n n) (hs : seg mem a k = l') (hl : l'.length = k) (hh : hasB n a k = true) (hal : a + k ≤ n) :
    Calls Try.prog 18 #[.pointer (some ⟨p, 0, none⟩), .agg #[.int .i64 (a : Int), .int .i64 (k : Int)]] w fun e w' =>
      ∃ g : Nat, e = .returned (.slice (some ⟨g, 0, none⟩) k k) ∧ Below w.heap.size w w' ∧ (convert 36 9 (.slice (some ⟨g, 0, none⟩) k k)).run Try.prog w' = .ok (.string (bstr l')) w' := by
  refine (load_yes h a k hh hal).mono ?_
  rintro e w' ⟨g, rfl, hg, hr, hb⟩
  rw [hs] at hr ⊢
  rw [hl]
  exact ⟨g, rfl, hb, run_bstr (P := Try.prog) sliceT byteT strT w' _ k k l' hl (Src.whole hr)⟩

set_option maxRecDepth 100000 in
set_option maxHeartbeats 4000000 in
theorem over_short (a0 : Option Addr) (cap0 : Nat) (sa sn ta tn i c : Int) (w : World) (l : List Int) (hs : Src w .u8 a0 l) (hby : Byts l) (h : l.length ≤ 200)
    (hc : 0 ≤ c ∧ c ≤ 255) (hsn : sn ≤ 9223372036854775807) (htn : tn ≤ 9223372036854775807) :
    Calls Try.prog 7 #[.slice a0 l.length cap0, .agg #[.int .i64 sa, .int .i64 sn], .agg #[.int .i64 ta, .int .i64 tn], .int .i64 i, .int .u8 c] w fun e w' => e = .returned (.bool true) ∧ Below w.heap.size w w' := by
  have d : decide ((200 : Int) < (l.length : Int)) = false := by simp; omega
  obtain ⟨n, hn⟩ : ∃ n, n = l.length := ⟨_, rfl⟩
  rw [← hn] at h d ⊢
  have hn' := Lib.hid hn
  have hS := Lib.hid hs
  have hY := Lib.hid hby
  clear hn hs hby
  go_enter Try.func7, Try.ntmps7
  go_wp2_with fail
  refine (new_yes _ 200 (by omega) (by omega)).mono ?_
  rintro e w1 ⟨p, q, rfl, hp, hq, a1, hb⟩
  simp at hp hq
  have x0 : w1.cell? ⟨w.heap.size, 0, none⟩ = some (.int .i64 sa) := (hb.cell (by simp; omega)).trans (by simp [World.cell?_alloc_past, World.cell?_alloc_at])
  have x1 : w1.cell? ⟨w.heap.size, 1, none⟩ = some (.int .i64 sn) := (hb.cell (by simp; omega)).trans (by simp [World.cell?_alloc_past, World.cell?_alloc_at])
  have y0 : w1.cell? ⟨w.heap.size + 1, 0, none⟩ = some (.int .i64 ta) := (hb.cell (by simp)).trans (by simp [World.cell?_alloc_at])
  have y1 : w1.cell? ⟨w.heap.size + 1, 1, none⟩ = some (.int .i64 tn) := (hb.cell (by simp)).trans (by simp [World.cell?_alloc_at])
  have b1 := Lib.hid ((((Below.refl w.heap.size w).alloc (Nat.le_refl _) (.cells #[.int .i64 sa, .int .i64 sn] 34)).alloc (by simp) (.cells #[.int .i64 ta, .int .i64 tn] 34)).trans (hb.mono (by simp; omega)))
  clear hb
  go_wp2_with fail
  refine (take_yes a1 n (by rw [List.length_replicate]; omega)).mono ?_
  rintro e w2 ⟨rfl, k2, a2⟩
  rw [splice_rep 200 n (by omega), Nat.zero_add, Nat.zero_max] at a2
  rw [Int.natCast_zero]
  have b2 := Lib.hid (Kp.belowAll b1.out k2 b1.out.size (by omega) (by omega))
  have x0' := k2.cell x0 (by simp; omega) (by simp; omega)
  have x1' := k2.cell x1 (by simp; omega) (by simp; omega)
  have y0' := k2.cell y0 (by simp; omega) (by simp; omega)
  have y1' := k2.cell y1 (by simp; omega) (by simp; omega)
  have hz2 : w.heap.size + 1 < w2.heap.size := World.block_lt_of_cell? _ _ y0'
  have hp2 := Nat.ne_of_gt a2.plt
  have hq2 := Nat.ne_of_gt a2.qlt
  clear a1 b1 k2 x0 x1 y0 y1
  go_wp2_with fail
  have z0 : (w2.alloc (.cells #[Value.int IntKind.i64 0, Value.int IntKind.i64 n] 34)).cell? ⟨w2.heap.size, 0, none⟩ = some (.int .i64 0) := by simp
  have z1 : (w2.alloc (.cells #[Value.int IntKind.i64 0, Value.int IntKind.i64 n] 34)).cell? ⟨w2.heap.size, 1, none⟩ = some (.int .i64 n) := by simp
  refine (store_yes (a2.alloc _) 0 n 0 a0 n cap0 l hn'.out.symm (hS.out.below (b2.out.alloc b2.out.size _)) hY.out (by simp [hasB]) (by omega) (by omega)).mono ?_
  rintro e w3 ⟨rfl, k3, a3⟩
  rw [Nat.zero_add] at a3
  have b3 := Lib.hid (Kp.belowAll b2.out ((Kp.alloc p q _ _).trans k3) b2.out.size (by omega) (by omega))
  have x0 := ((Kp.alloc p q _ _).trans k3).cell x0' (by simp; omega) (by simp; omega)
  have x1 := ((Kp.alloc p q _ _).trans k3).cell x1' (by simp; omega) (by simp; omega)
  have y0 := ((Kp.alloc p q _ _).trans k3).cell y0' (by simp; omega) (by simp; omega)
  have y1 := ((Kp.alloc p q _ _).trans k3).cell y1' (by simp; omega) (by simp; omega)
  have z0' := k3.cell z0 hp2 hq2
  have z1' := k3.cell z1 hp2 hq2
  clear a2 b2 k3 x0' x1' y0' y1' z0 z1
  go_wp2_with fail
  refine (setByte_call a3 sa sn i c hsn hc).mono ?_
  rintro e w4 ⟨rfl, k4, a4⟩
  have b4 := Lib.hid (Kp.belowAll b3.out k4 b3.out.size (by omega) (by omega))
  have x0' := k4.cell x0 (by simp; omega) (by simp; omega)
  have x1' := k4.cell x1 (by simp; omega) (by simp; omega)
  have y0' := k4.cell y0 (by simp; omega) (by simp; omega)
  have y1' := k4.cell y1 (by simp; omega) (by simp; omega)
  have z0 := k4.cell z0' hp2 hq2
  have z1 := k4.cell z1' hp2 hq2
  have hz4 : w2.heap.size < w4.heap.size := World.block_lt_of_cell? _ _ z0
  clear a3 b3 k4 x0 x1 y0 y1 z0' z1'
  have HA := Lib.hid a4
  clear a4
  have hB4 : (w4.alloc (.cells #[] 5)).heap[w4.heap.size]? = some (.cells #[] 5 (0, 0)) := heap_alloc_new _ _
  have hB5 := Lib.hid hB4
  clear hB4
  go_wp2_with (first
    | (at_builtin; refine wpList_append_fresh rfl (.tmp 52) (.tmp 53) 36 rfl 5 .u8 1 sliceT byteInfo w4.heap.size rfl hB5.out a0 n cap0 rfl l hn'.out.symm (hS.out.below (b4.out.alloc b4.out.size _)) (by unfold maxLen; omega) (by omega) w4.heap.size (Nat.le_refl _) ?_))
  intro v' w5 hown hgr
  obtain ⟨g, cap, cur, rfl, hg4, hcap, hcapm, hrow, hcs, hcc⟩ := hown.cells
  rw [← hn'.out] at hcc hcap ⊢
  have keep : ∀ {b o : Nat} {v : Value}, w4.cell? ⟨b, o, none⟩ = some v → w5.cell? ⟨b, o, none⟩ = some v := by
    intro b o v hcell
    have hlt := World.block_lt_of_cell? w4 _ hcell
    exact hgr.cell (Lib.cell?_alloc_some _ hcell) (by simp at hlt ⊢; omega)
  have x0 := keep x0'
  have x1 := keep x1'
  have y0 := keep y0'
  have y1 := keep y1'
  have z0' := keep z0
  have z1' := keep z1
  have hA5 := Lib.hid ((HA.out.alloc (.cells #[] 5)).grown2 hgr (by have := HA.out.plt; simp; omega) (by have := HA.out.qlt; simp; omega))
  have hB5' := Lib.hid ((b4.out.alloc b4.out.size (.cells #[] 5)).grown hgr (by have := b4.out.size; simp; omega) (fun k hk => by injection hk with hk; have := b4.out.size; omega))
  have hpg : p ≠ g := by have := HA.out.plt; omega
  have hqg : q ≠ g := by have := HA.out.qlt; omega
  have hR5 : OwnC w5 g cap l := ⟨cur, hrow, hcs, by rw [← hn'.out]; exact hcc⟩
  have HR5 := Lib.hid hR5
  have hsg := over_seg l n hn'.out h sa sn i c
  generalize hm4 : memSet (splice (List.replicate 200 0) 0 l) n sa sn i c = mem4 at hA5 hsg
  have HS4 := Lib.hid hsg
  clear keep x0' x1' y0' y1' z0 z1 HA b4 hgr hown hrow hcs hcc hR5 hm4 hsg hB5
  go_upto_if 55 with fail
  go_cut [15] (fun s15 wx => s15 = .bool (byteOk n sa sn i) ∧ Ar wx p q mem4 n n ∧ OwnC wx g cap (memSet l n sa sn i c) ∧ wx.cell? ⟨w.heap.size + 1, 0, none⟩ = some (.int .i64 ta) ∧ wx.cell? ⟨w.heap.size + 1, 1, none⟩ = some (.int .i64 tn) ∧
      wx.cell? ⟨w2.heap.size, 0, none⟩ = some (.int .i64 0) ∧ wx.cell? ⟨w2.heap.size, 1, none⟩ = some (.int .i64 n) ∧ Below w.heap.size w wx)
  case first =>
    by_cases hok : byteOk n sa sn i = true
    · obtain ⟨a', n', i', rfl, rfl, rfl, h1, h2⟩ := byteOk_yes hok
      have HOK := Lib.hid hok
      rw [hok]
      clear hok
      obtain ⟨cur, hrow, hcs, hcc⟩ := HR5.out
      have c0 : w5.cell? ⟨g, a' + i', none⟩ = some (.int .u8 (l.getD (a' + i') 0)) := by
        simp only [World.cell?, hrow]
        exact hcc _ (by rw [← hn'.out]; omega)
      have f0 : w5.frozen? ⟨g, a' + i', none⟩ = false := frozen_icells hrow _
      have d1 : decide ((a' : Int) < 0) = false := by simp
      have d2 : decide ((i' : Int) < 0) = false := by simp
      have d3 : decide ((n' : Int) ≤ (i' : Int)) = false := by simp; omega
      have d4 : decide ((n : Int) < (a' : Int)) = false := by simp; omega
      have d5 : decide ((n : Int) - (a' : Int) ≤ (i' : Int)) = false := by simp; omega
      have hR6 := Lib.hid ((HR5.out).set (a' + i') c)
      have hA6 := Lib.hid (hA5.out.setOther (a := ⟨g, a' + i', none⟩) (.int .u8 c) (by simp; omega) (by simp; omega))
      have hB6 := Lib.hid (hB5'.out.setCell (p := ⟨g, a' + i', none⟩) (by have := hB5'.out.size; simp; omega) (.int .u8 c))
      clear hrow hcs hcc
      go_wp2
      go_meet
      refine ⟨by rw [HOK.out], hA6.out, ?_, ?_, ?_, ?_, ?_, hB6.out⟩
      · unfold memSet
        rw [if_pos HOK.out]
        exact hR6.out
      · exact (World.cell?_of_block (Below.heap_setCell _ _ _ _ (by simp; omega))).trans y0
      · exact (World.cell?_of_block (Below.heap_setCell _ _ _ _ (by simp; omega))).trans y1
      · exact (World.cell?_of_block (Below.heap_setCell _ _ _ _ (by simp; omega))).trans z0'
      · exact (World.cell?_of_block (Below.heap_setCell _ _ _ _ (by simp; omega))).trans z1'
    · have hok' : byteOk n sa sn i = false := by simpa using hok
      have HOK := Lib.hid hok
      have HOKF := Lib.hid hok'
      rw [hok']
      clear hok hok'
      go_wp2
      go_meet
      refine ⟨by rw [HOKF.out], hA5.out, ?_, y0, y1, z0', z1', hB5'.out⟩
      unfold memSet
      rw [if_neg HOK.out]
      exact HR5.out
  case rest =>
    obtain ⟨rfl, ha, hr, y0, y1, z0, z1, hb⟩ := hcut
    have HA := Lib.hid ha
    have HR := Lib.hid hr
    have HB := Lib.hid hb
    clear ha hr hb
    go_wp2_with fail
    refine (has_call HA.out ta tn htn).mono ?_
    rintro e w6 ⟨rfl, hb⟩
    have hA6 := HA.out.below hb
    have hR6 := HR.out.below hb
    have hB6 := HB.out.trans (hb.mono HB.out.size)
    have y0' := cell_later hb y0
    have y1' := cell_later hb y1
    have z0' := cell_later hb z0
    have z1' := cell_later hb z1
    have hll : (memSet l n sa sn i c).length = n := by rw [memSet_length]; exact hn'.out.symm
    have HLL := Lib.hid hll
    have HS6 := Lib.hid (over_S hA6 hR6 hll y0' y1' z0' z1' hB6)
    clear HA HR HB y0 y1 z0 z1 hb hA6 hR6 hB6 y0' y1' z0' z1' hll
    by_cases hh : hasB n ta tn = true
    · obtain ⟨a', n', rfl, rfl, hal⟩ := hasB_yes hh
      rw [hh]
      have HH := Lib.hid hh
      clear hh
      have hsn1 : seg mem4 a' n' = seg (memSet l n sa sn i c) a' n' := by rw [← HS4.out]; exact (seg_seg _ _ _ _ hal).symm
      have HSN := Lib.hid hsn1
      have hln : (seg (memSet l n sa sn i c) a' n').length = n' := seg_length _ _ _ (by rw [HLL.out]; exact hal)
      have HLN := Lib.hid hln
      have hw1 : IntKind.i64.wrap ((a' : Int) + (n' : Int)) = (a' : Int) + (n' : Int) := IntWalk.i64_in _ (by omega)
      have hw2 : (0 : Int) ≤ (a' : Int) + (n' : Int) := by omega
      have hw3 : (a' : Int) ≤ (a' : Int) + (n' : Int) := by omega
      have hw4 : (a' : Int) + (n' : Int) ≤ (cap : Int) := by omega
      have hw5 : ((a' : Int) + (n' : Int)).toNat = a' + n' := by omega
      have hw6 : a' + n' - a' = n' := by omega
      by_cases hca : cap = a'
      · obtain rfl : n' = 0 := by omega
        subst hca
        have hw7 : IntKind.i64.wrap (cap : Int) = (cap : Int) := IntWalk.i64_in _ (by omega)
        go_wp2_with fail
        refine wp_region_noPanic ?_
        refine wp_region_held_drew (S := (fun W => Ar W p q mem4 n n ∧ OwnC W g cap (memSet l n sa sn i c) ∧ W.cell? ⟨w.heap.size + 1, 0, none⟩ = some (.int .i64 (cap : Int)) ∧ W.cell? ⟨w.heap.size + 1, 1, none⟩ = some (.int .i64 0) ∧
          W.cell? ⟨w2.heap.size, 0, none⟩ = some (.int .i64 0) ∧ W.cell? ⟨w2.heap.size, 1, none⟩ = some (.int .i64 n) ∧ Below w.heap.size w W ∧ (convert 36 9 (.slice (some ⟨g, 0, none⟩) n cap)).run Try.prog W = .ok (.string (bstr (memSet l n sa sn i c))) W ∧
          (convert 36 9 (.slice (some ⟨g, 0, none⟩) 0 0)).run Try.prog W = .ok (.string (bstr (seg (memSet l n sa sn i c) cap 0))) W)) (by kernel_rfl) ?_ (fun hHeld => ?_)
        · exact over_keep2 (.inl rfl) hal HLL.out HS6.out ((Below.refl _ _).drew)
        refine wpAnyH_take (i := 0) (v := ?_) rfl (by kernel_rfl) (by kernel_rfl) (by kernel_rfl) (fun _ _ _ h => h) (Or.inl ⟨by rfl, ?_⟩) (by assumption) ?_
        rotate_left
        · (intro W hSw; (try dsimp only at hSw); go_simp) <;> with_reducible rfl
        try simp only [Act.put, List.getElem_toArray, List.getElem_cons_succ, List.getElem_cons_zero, List.setIfInBounds_toArray, List.set_cons_zero, List.set_cons_succ]
        refine wpAnyH_take (i := 1) (v := ?_) rfl (by kernel_rfl) (by kernel_rfl) (by kernel_rfl) (fun _ _ _ h => h) (Or.inl ⟨by rfl, ?_⟩) (by assumption) ?_
        rotate_left
        · (intro W hSw; (try dsimp only at hSw); go_simp) <;> with_reducible rfl
        try simp only [Act.put, List.getElem_toArray, List.getElem_cons_succ, List.getElem_cons_zero, List.setIfInBounds_toArray, List.set_cons_zero, List.set_cons_succ]
        refine wpAnyH_take (i := 4) (v := ?_) rfl (by kernel_rfl) (by kernel_rfl) (by kernel_rfl) (fun _ _ _ h => h) (Or.inl ⟨by rfl, ?_⟩) (by assumption) ?_
        rotate_left
        · (intro W hSw; (try dsimp only at hSw); go_simp) <;> with_reducible rfl
        try simp only [Act.put, List.getElem_toArray, List.getElem_cons_succ, List.getElem_cons_zero, List.setIfInBounds_toArray, List.set_cons_zero, List.set_cons_succ]
        refine wpAnyH_take (i := 5) (v := ?_) rfl (by kernel_rfl) (by kernel_rfl) (by kernel_rfl) (fun _ _ _ h => h) (Or.inl ⟨by rfl, ?_⟩) (by assumption) ?_
        rotate_left
        · (intro W hSw; (try dsimp only at hSw); go_simp) <;> with_reducible rfl
        try simp only [Act.put, List.getElem_toArray, List.getElem_cons_succ, List.getElem_cons_zero, List.setIfInBounds_toArray, List.set_cons_zero, List.set_cons_succ]
        refine wpAnyH_take (i := 6) (v := ?_) rfl (by kernel_rfl) (by kernel_rfl) (by kernel_rfl) (fun _ _ _ h => h) (Or.inl ⟨by rfl, ?_⟩) (by assumption) ?_
        rotate_left
        · (intro W hSw; (try dsimp only at hSw); go_simp) <;> with_reducible rfl
        try simp only [Act.put, List.getElem_toArray, List.getElem_cons_succ, List.getElem_cons_zero, List.setIfInBounds_toArray, List.set_cons_zero, List.set_cons_succ]
        refine wpAnyH_take (i := 7) (v := ?_) rfl (by kernel_rfl) (by kernel_rfl) (by kernel_rfl) (fun _ _ _ h => h) (Or.inl ⟨by rfl, ?_⟩) (by assumption) ?_
        rotate_left
        · (intro W hSw; (try dsimp only at hSw); go_simp) <;> with_reducible rfl
        try simp only [Act.put, List.getElem_toArray, List.getElem_cons_succ, List.getElem_cons_zero, List.setIfInBounds_toArray, List.set_cons_zero, List.set_cons_succ]
        refine wpAnyH_take (i := 8) (v := ?_) rfl (by kernel_rfl) (by kernel_rfl) (by kernel_rfl) (fun _ _ _ h => h) (Or.inl ⟨by rfl, ?_⟩) (by assumption) ?_
        rotate_left
        · (intro W hSw; (try dsimp only at hSw); go_simp) <;> with_reducible rfl
        try simp only [Act.put, List.getElem_toArray, List.getElem_cons_succ, List.getElem_cons_zero, List.setIfInBounds_toArray, List.set_cons_zero, List.set_cons_succ]
        refine wpAnyH_take (i := 9) (v := ?_) rfl (by kernel_rfl) (by kernel_rfl) (by kernel_rfl) (fun _ _ _ h => h) (Or.inl ⟨by rfl, ?_⟩) (by assumption) ?_
        rotate_left
        · (intro W hSw; (try dsimp only at hSw); go_simp) <;> with_reducible rfl
        try simp only [Act.put, List.getElem_toArray, List.getElem_cons_succ, List.getElem_cons_zero, List.setIfInBounds_toArray, List.set_cons_zero, List.set_cons_succ]
        refine wpAnyH_take (i := 10) (v := ?_) rfl (by kernel_rfl) (by kernel_rfl) (by kernel_rfl) (fun _ _ _ h => h) (Or.inl ⟨by rfl, ?_⟩) (by assumption) ?_
        rotate_left
        · (intro W hSw; (try dsimp only at hSw); go_simp) <;> with_reducible rfl
        try simp only [Act.put, List.getElem_toArray, List.getElem_cons_succ, List.getElem_cons_zero, List.setIfInBounds_toArray, List.set_cons_zero, List.set_cons_succ]
        refine wpAnyH_take (i := 11) (v := ?_) rfl (by kernel_rfl) (by kernel_rfl) (by kernel_rfl) (fun _ _ _ h => h) (Or.inl ⟨by rfl, ?_⟩) (by assumption) ?_
        rotate_left
        · (intro W hSw; (try dsimp only at hSw); go_simp) <;> with_reducible rfl
        try simp only [Act.put, List.getElem_toArray, List.getElem_cons_succ, List.getElem_cons_zero, List.setIfInBounds_toArray, List.set_cons_zero, List.set_cons_succ]
        refine wpAnyH_take (i := 12) (v := ?_) rfl (by kernel_rfl) (by kernel_rfl) (by kernel_rfl) (fun _ _ _ h => h) (Or.inl ⟨by rfl, ?_⟩) (by assumption) ?_
        rotate_left
        · (intro W hSw; (try dsimp only at hSw); go_simp) <;> with_reducible rfl
        try simp only [Act.put, List.getElem_toArray, List.getElem_cons_succ, List.getElem_cons_zero, List.setIfInBounds_toArray, List.set_cons_zero, List.set_cons_succ]
        refine wpAnyH_take (i := 13) (v := ?_) rfl (by kernel_rfl) (by kernel_rfl) (by kernel_rfl) (fun _ _ _ h => h) (Or.inl ⟨by rfl, ?_⟩) (by assumption) ?_
        rotate_left
        · (intro W hSw; (try dsimp only at hSw); go_simp) <;> with_reducible rfl
        try simp only [Act.put, List.getElem_toArray, List.getElem_cons_succ, List.getElem_cons_zero, List.setIfInBounds_toArray, List.set_cons_zero, List.set_cons_succ]
        refine wpAnyH_ready (rs := [2]) (by kernel_rfl) (by simp) ?_
        refine AllReadyH.cons (o := _) rfl (fun K hK => ?_) AllReadyH.nil
        go_simp
        go_at_call 18
        refine (loadT (a := cap) (k := 0) mem4 hHeld.1 HSN.out HLN.out HH.out hal).mono ?_
        rintro e w7 ⟨g7, rfl, hb7, hc7⟩
        refine hK.out _ _ ?_ (fun hHeld => ?_)
        · exact over_keep2 (.inl rfl) hal HLL.out (over_fst hHeld) hb7
        clear hK K
        try simp only [Act.put, List.getElem_toArray, List.getElem_cons_succ, List.getElem_cons_zero, List.setIfInBounds_toArray, List.set_cons_zero, List.set_cons_succ]
        refine wpAnyH_ready (rs := [3]) (by kernel_rfl) (by simp) ?_
        refine AllReadyH.cons (o := _) rfl (fun K hK => ?_) AllReadyH.nil
        go_simp
        refine hK.out _ _ ?_ (fun hHeld => ?_)
        · exact hHeld
        clear hK K
        try simp only [Act.put, List.getElem_toArray, List.getElem_cons_succ, List.getElem_cons_zero, List.setIfInBounds_toArray, List.set_cons_zero, List.set_cons_succ]
        refine wpAnyH_take (i := 14) (v := ?_) rfl (by kernel_rfl) (by kernel_rfl) (by kernel_rfl) (fun _ _ _ h => h) (Or.inl ⟨by rfl, ?_⟩) (by assumption) ?_
        rotate_left
        · (intro W hSw; (try dsimp only at hSw); go_simp) <;> with_reducible rfl
        try simp only [Act.put, List.getElem_toArray, List.getElem_cons_succ, List.getElem_cons_zero, List.setIfInBounds_toArray, List.set_cons_zero, List.set_cons_succ]
        refine wpAnyH_take (i := 15) (v := ?_) rfl (by kernel_rfl) (by kernel_rfl) (by kernel_rfl) (fun _ _ _ h => h) (Or.inl ⟨by rfl, ?_⟩) (by assumption) ?_
        rotate_left
        · (intro W hSw; (try dsimp only at hSw); go_simp) <;> with_reducible rfl
        try simp only [Act.put, List.getElem_toArray, List.getElem_cons_succ, List.getElem_cons_zero, List.setIfInBounds_toArray, List.set_cons_zero, List.set_cons_succ]
        refine wpAnyH_take (i := 16) (v := ?_) rfl (by kernel_rfl) (by kernel_rfl) (by kernel_rfl) (fun _ _ _ h => h) (Or.inl ⟨by rfl, ?_⟩) (by assumption) ?_
        rotate_left
        · (intro W hSw; (try dsimp only at hSw); go_simp) <;> with_reducible rfl
        try simp only [Act.put, List.getElem_toArray, List.getElem_cons_succ, List.getElem_cons_zero, List.setIfInBounds_toArray, List.set_cons_zero, List.set_cons_succ]
        refine wpAnyH_take (i := 17) (v := ?_) rfl (by kernel_rfl) (by kernel_rfl) (by kernel_rfl) (fun _ _ _ h => h) (Or.inl ⟨by rfl, ?_⟩) (by assumption) ?_
        rotate_left
        · (intro W hSw; (try dsimp only at hSw); go_simp) <;> with_reducible rfl
        try simp only [Act.put, List.getElem_toArray, List.getElem_cons_succ, List.getElem_cons_zero, List.setIfInBounds_toArray, List.set_cons_zero, List.set_cons_succ]
        refine wpAnyH_take (i := 20) (v := ?_) rfl (by kernel_rfl) (by kernel_rfl) (by kernel_rfl) (fun _ _ _ h => h) (Or.inl ⟨by rfl, ?_⟩) (by assumption) ?_
        rotate_left
        · (intro W hSw; (try dsimp only at hSw); go_simp) <;> with_reducible rfl
        try simp only [Act.put, List.getElem_toArray, List.getElem_cons_succ, List.getElem_cons_zero, List.setIfInBounds_toArray, List.set_cons_zero, List.set_cons_succ]
        refine wpAnyH_take (i := 21) (v := ?_) rfl (by kernel_rfl) (by kernel_rfl) (by kernel_rfl) (fun _ _ _ h => h) (Or.inl ⟨by rfl, ?_⟩) (by assumption) ?_
        rotate_left
        · (intro W hSw; (try dsimp only at hSw); go_simp) <;> with_reducible rfl
        try simp only [Act.put, List.getElem_toArray, List.getElem_cons_succ, List.getElem_cons_zero, List.setIfInBounds_toArray, List.set_cons_zero, List.set_cons_succ]
        refine wpAnyH_ready (rs := [18]) (by kernel_rfl) (by simp) ?_
        refine AllReadyH.cons (o := _) rfl (fun K hK => ?_) AllReadyH.nil
        go_simp
        go_at_call 18
        refine (load0 mem4 hHeld.1 HS4.out HLL.out).mono ?_
        rintro e w8 ⟨g8, rfl, hb8, hc8⟩
        refine hK.out _ _ ?_ (fun hHeld => ?_)
        · exact over_keep2 (.inl rfl) hal HLL.out (over_fst hHeld) hb8
        clear hK K
        try simp only [Act.put, List.getElem_toArray, List.getElem_cons_succ, List.getElem_cons_zero, List.setIfInBounds_toArray, List.set_cons_zero, List.set_cons_succ]
        refine wpAnyH_ready (rs := [19]) (by kernel_rfl) (by simp) ?_
        refine AllReadyH.cons (o := _) rfl (fun K hK => ?_) AllReadyH.nil
        go_simp
        refine hK.out _ _ ?_ (fun hHeld => ?_)
        · exact hHeld
        clear hK K
        try simp only [Act.put, List.getElem_toArray, List.getElem_cons_succ, List.getElem_cons_zero, List.setIfInBounds_toArray, List.set_cons_zero, List.set_cons_succ]
        refine wpAnyH_take (i := 22) (v := ?_) rfl (by kernel_rfl) (by kernel_rfl) (by kernel_rfl) (fun _ _ _ h => h) (Or.inl ⟨by rfl, ?_⟩) (by assumption) ?_
        rotate_left
        · (intro W hSw; (try dsimp only at hSw); go_simp) <;> with_reducible rfl
        try simp only [Act.put, List.getElem_toArray, List.getElem_cons_succ, List.getElem_cons_zero, List.setIfInBounds_toArray, List.set_cons_zero, List.set_cons_succ]
        refine wpAnyH_take (i := 23) (v := ?_) rfl (by kernel_rfl) (by kernel_rfl) (by kernel_rfl) (fun _ _ _ h => h) (Or.inl ⟨by rfl, ?_⟩) (by assumption) ?_
        rotate_left
        · (intro W hSw; (try dsimp only at hSw); go_simp) <;> with_reducible rfl
        try simp only [Act.put, List.getElem_toArray, List.getElem_cons_succ, List.getElem_cons_zero, List.setIfInBounds_toArray, List.set_cons_zero, List.set_cons_succ]
        refine wpAnyH_take (i := 24) (v := ?_) rfl (by kernel_rfl) (by kernel_rfl) (by kernel_rfl) (fun _ _ _ h => h) (Or.inl ⟨by rfl, ?_⟩) (by assumption) ?_
        rotate_left
        · (intro W hSw; (try dsimp only at hSw); go_simp) <;> with_reducible rfl
        try simp only [Act.put, List.getElem_toArray, List.getElem_cons_succ, List.getElem_cons_zero, List.setIfInBounds_toArray, List.set_cons_zero, List.set_cons_succ]
        refine wpAnyH_ready (rs := [25]) (by kernel_rfl) (by simp) ?_
        refine AllReadyH.cons (o := _) rfl (fun K hK => ?_) AllReadyH.nil
        go_simp
        go_at_call 9
        refine (wakes_call _).mono ?_
        rintro e w9 ⟨rfl, hb9⟩
        refine hK.out _ _ ?_ (fun hHeld => ?_)
        · exact over_keep2 (.inl rfl) hal HLL.out (over_fst hHeld) hb9
        clear hK K
        try simp only [Act.put, List.getElem_toArray, List.getElem_cons_succ, List.getElem_cons_zero, List.setIfInBounds_toArray, List.set_cons_zero, List.set_cons_succ]
        refine wpAnyH_take (i := 26) (v := ?_) rfl (by kernel_rfl) (by kernel_rfl) (by kernel_rfl) (fun _ _ _ h => h) (Or.inl ⟨by rfl, ?_⟩) (by assumption) ?_
        rotate_left
        · (intro W hSw; (try dsimp only at hSw); go_simp) <;> with_reducible rfl
        try simp only [Act.put, List.getElem_toArray, List.getElem_cons_succ, List.getElem_cons_zero, List.setIfInBounds_toArray, List.set_cons_zero, List.set_cons_succ]
        refine wpAnyH_take (i := 27) (v := ?_) rfl (by kernel_rfl) (by kernel_rfl) (by kernel_rfl) (fun _ _ _ h => h) (Or.inl ⟨by rfl, ?_⟩) (by assumption) ?_
        rotate_left
        · (intro W hSw; (try dsimp only at hSw); go_simp) <;> with_reducible rfl
        try simp only [Act.put, List.getElem_toArray, List.getElem_cons_succ, List.getElem_cons_zero, List.setIfInBounds_toArray, List.set_cons_zero, List.set_cons_succ]
        refine wpAnyH_done (by kernel_rfl) ?_ _
        refine NoPanic.normal ?_
        go_wp2
        go_ret
        exact ⟨rfl, hHeld.2.2.2.2.2.2.1⟩
      · go_wp2_with fail
        refine wp_region_noPanic ?_
        refine wp_region_held_drew (S := (fun W => Ar W p q mem4 n n ∧ OwnC W g cap (memSet l n sa sn i c) ∧ W.cell? ⟨w.heap.size + 1, 0, none⟩ = some (.int .i64 (a' : Int)) ∧ W.cell? ⟨w.heap.size + 1, 1, none⟩ = some (.int .i64 (n' : Int)) ∧
          W.cell? ⟨w2.heap.size, 0, none⟩ = some (.int .i64 0) ∧ W.cell? ⟨w2.heap.size, 1, none⟩ = some (.int .i64 n) ∧ Below w.heap.size w W ∧ (convert 36 9 (.slice (some ⟨g, 0, none⟩) n cap)).run Try.prog W = .ok (.string (bstr (memSet l n sa sn i c))) W ∧
          (convert 36 9 (.slice (some ⟨g, a', none⟩) n' (cap - a'))).run Try.prog W = .ok (.string (bstr (seg (memSet l n sa sn i c) a' n'))) W)) (by kernel_rfl) ?_ (fun hHeld => ?_)
        · exact over_keep2 (.inr rfl) hal HLL.out HS6.out ((Below.refl _ _).drew)
        refine wpAnyH_take (i := 0) (v := ?_) rfl (by kernel_rfl) (by kernel_rfl) (by kernel_rfl) (fun _ _ _ h => h) (Or.inl ⟨by rfl, ?_⟩) (by assumption) ?_
        rotate_left
        · (intro W hSw; (try dsimp only at hSw); go_simp) <;> with_reducible rfl
        try simp only [Act.put, List.getElem_toArray, List.getElem_cons_succ, List.getElem_cons_zero, List.setIfInBounds_toArray, List.set_cons_zero, List.set_cons_succ]
        refine wpAnyH_take (i := 1) (v := ?_) rfl (by kernel_rfl) (by kernel_rfl) (by kernel_rfl) (fun _ _ _ h => h) (Or.inl ⟨by rfl, ?_⟩) (by assumption) ?_
        rotate_left
        · (intro W hSw; (try dsimp only at hSw); go_simp) <;> with_reducible rfl
        try simp only [Act.put, List.getElem_toArray, List.getElem_cons_succ, List.getElem_cons_zero, List.setIfInBounds_toArray, List.set_cons_zero, List.set_cons_succ]
        refine wpAnyH_take (i := 4) (v := ?_) rfl (by kernel_rfl) (by kernel_rfl) (by kernel_rfl) (fun _ _ _ h => h) (Or.inl ⟨by rfl, ?_⟩) (by assumption) ?_
        rotate_left
        · (intro W hSw; (try dsimp only at hSw); go_simp) <;> with_reducible rfl
        try simp only [Act.put, List.getElem_toArray, List.getElem_cons_succ, List.getElem_cons_zero, List.setIfInBounds_toArray, List.set_cons_zero, List.set_cons_succ]
        refine wpAnyH_take (i := 5) (v := ?_) rfl (by kernel_rfl) (by kernel_rfl) (by kernel_rfl) (fun _ _ _ h => h) (Or.inl ⟨by rfl, ?_⟩) (by assumption) ?_
        rotate_left
        · (intro W hSw; (try dsimp only at hSw); go_simp) <;> with_reducible rfl
        try simp only [Act.put, List.getElem_toArray, List.getElem_cons_succ, List.getElem_cons_zero, List.setIfInBounds_toArray, List.set_cons_zero, List.set_cons_succ]
        refine wpAnyH_take (i := 6) (v := ?_) rfl (by kernel_rfl) (by kernel_rfl) (by kernel_rfl) (fun _ _ _ h => h) (Or.inl ⟨by rfl, ?_⟩) (by assumption) ?_
        rotate_left
        · (intro W hSw; (try dsimp only at hSw); go_simp) <;> with_reducible rfl
        try simp only [Act.put, List.getElem_toArray, List.getElem_cons_succ, List.getElem_cons_zero, List.setIfInBounds_toArray, List.set_cons_zero, List.set_cons_succ]
        refine wpAnyH_take (i := 7) (v := ?_) rfl (by kernel_rfl) (by kernel_rfl) (by kernel_rfl) (fun _ _ _ h => h) (Or.inl ⟨by rfl, ?_⟩) (by assumption) ?_
        rotate_left
        · (intro W hSw; (try dsimp only at hSw); go_simp) <;> with_reducible rfl
        try simp only [Act.put, List.getElem_toArray, List.getElem_cons_succ, List.getElem_cons_zero, List.setIfInBounds_toArray, List.set_cons_zero, List.set_cons_succ]
        refine wpAnyH_take (i := 8) (v := ?_) rfl (by kernel_rfl) (by kernel_rfl) (by kernel_rfl) (fun _ _ _ h => h) (Or.inl ⟨by rfl, ?_⟩) (by assumption) ?_
        rotate_left
        · (intro W hSw; (try dsimp only at hSw); go_simp) <;> with_reducible rfl
        try simp only [Act.put, List.getElem_toArray, List.getElem_cons_succ, List.getElem_cons_zero, List.setIfInBounds_toArray, List.set_cons_zero, List.set_cons_succ]
        refine wpAnyH_take (i := 9) (v := ?_) rfl (by kernel_rfl) (by kernel_rfl) (by kernel_rfl) (fun _ _ _ h => h) (Or.inl ⟨by rfl, ?_⟩) (by assumption) ?_
        rotate_left
        · (intro W hSw; (try dsimp only at hSw); go_simp) <;> with_reducible rfl
        try simp only [Act.put, List.getElem_toArray, List.getElem_cons_succ, List.getElem_cons_zero, List.setIfInBounds_toArray, List.set_cons_zero, List.set_cons_succ]
        refine wpAnyH_take (i := 10) (v := ?_) rfl (by kernel_rfl) (by kernel_rfl) (by kernel_rfl) (fun _ _ _ h => h) (Or.inl ⟨by rfl, ?_⟩) (by assumption) ?_
        rotate_left
        · (intro W hSw; (try dsimp only at hSw); go_simp) <;> with_reducible rfl
        try simp only [Act.put, List.getElem_toArray, List.getElem_cons_succ, List.getElem_cons_zero, List.setIfInBounds_toArray, List.set_cons_zero, List.set_cons_succ]
        refine wpAnyH_take (i := 11) (v := ?_) rfl (by kernel_rfl) (by kernel_rfl) (by kernel_rfl) (fun _ _ _ h => h) (Or.inl ⟨by rfl, ?_⟩) (by assumption) ?_
        rotate_left
        · (intro W hSw; (try dsimp only at hSw); go_simp) <;> with_reducible rfl
        try simp only [Act.put, List.getElem_toArray, List.getElem_cons_succ, List.getElem_cons_zero, List.setIfInBounds_toArray, List.set_cons_zero, List.set_cons_succ]
        refine wpAnyH_take (i := 12) (v := ?_) rfl (by kernel_rfl) (by kernel_rfl) (by kernel_rfl) (fun _ _ _ h => h) (Or.inl ⟨by rfl, ?_⟩) (by assumption) ?_
        rotate_left
        · (intro W hSw; (try dsimp only at hSw); go_simp) <;> with_reducible rfl
        try simp only [Act.put, List.getElem_toArray, List.getElem_cons_succ, List.getElem_cons_zero, List.setIfInBounds_toArray, List.set_cons_zero, List.set_cons_succ]
        refine wpAnyH_take (i := 13) (v := ?_) rfl (by kernel_rfl) (by kernel_rfl) (by kernel_rfl) (fun _ _ _ h => h) (Or.inl ⟨by rfl, ?_⟩) (by assumption) ?_
        rotate_left
        · (intro W hSw; (try dsimp only at hSw); go_simp) <;> with_reducible rfl
        try simp only [Act.put, List.getElem_toArray, List.getElem_cons_succ, List.getElem_cons_zero, List.setIfInBounds_toArray, List.set_cons_zero, List.set_cons_succ]
        refine wpAnyH_ready (rs := [2]) (by kernel_rfl) (by simp) ?_
        refine AllReadyH.cons (o := _) rfl (fun K hK => ?_) AllReadyH.nil
        go_simp
        go_at_call 18
        refine (loadT mem4 hHeld.1 HSN.out HLN.out HH.out hal).mono ?_
        rintro e w7 ⟨g7, rfl, hb7, hc7⟩
        refine hK.out _ _ ?_ (fun hHeld => ?_)
        · exact over_keep2 (.inr rfl) hal HLL.out (over_fst hHeld) hb7
        clear hK K
        try simp only [Act.put, List.getElem_toArray, List.getElem_cons_succ, List.getElem_cons_zero, List.setIfInBounds_toArray, List.set_cons_zero, List.set_cons_succ]
        refine wpAnyH_ready (rs := [3]) (by kernel_rfl) (by simp) ?_
        refine AllReadyH.cons (o := _) rfl (fun K hK => ?_) AllReadyH.nil
        go_simp
        refine hK.out _ _ ?_ (fun hHeld => ?_)
        · exact hHeld
        clear hK K
        try simp only [Act.put, List.getElem_toArray, List.getElem_cons_succ, List.getElem_cons_zero, List.setIfInBounds_toArray, List.set_cons_zero, List.set_cons_succ]
        refine wpAnyH_take (i := 14) (v := ?_) rfl (by kernel_rfl) (by kernel_rfl) (by kernel_rfl) (fun _ _ _ h => h) (Or.inl ⟨by rfl, ?_⟩) (by assumption) ?_
        rotate_left
        · (intro W hSw; (try dsimp only at hSw); go_simp) <;> with_reducible rfl
        try simp only [Act.put, List.getElem_toArray, List.getElem_cons_succ, List.getElem_cons_zero, List.setIfInBounds_toArray, List.set_cons_zero, List.set_cons_succ]
        refine wpAnyH_take (i := 15) (v := ?_) rfl (by kernel_rfl) (by kernel_rfl) (by kernel_rfl) (fun _ _ _ h => h) (Or.inl ⟨by rfl, ?_⟩) (by assumption) ?_
        rotate_left
        · (intro W hSw; (try dsimp only at hSw); go_simp) <;> with_reducible rfl
        try simp only [Act.put, List.getElem_toArray, List.getElem_cons_succ, List.getElem_cons_zero, List.setIfInBounds_toArray, List.set_cons_zero, List.set_cons_succ]
        refine wpAnyH_take (i := 16) (v := ?_) rfl (by kernel_rfl) (by kernel_rfl) (by kernel_rfl) (fun _ _ _ h => h) (Or.inl ⟨by rfl, ?_⟩) (by assumption) ?_
        rotate_left
        · (intro W hSw; (try dsimp only at hSw); go_simp) <;> with_reducible rfl
        try simp only [Act.put, List.getElem_toArray, List.getElem_cons_succ, List.getElem_cons_zero, List.setIfInBounds_toArray, List.set_cons_zero, List.set_cons_succ]
        refine wpAnyH_take (i := 17) (v := ?_) rfl (by kernel_rfl) (by kernel_rfl) (by kernel_rfl) (fun _ _ _ h => h) (Or.inl ⟨by rfl, ?_⟩) (by assumption) ?_
        rotate_left
        · (intro W hSw; (try dsimp only at hSw); go_simp) <;> with_reducible rfl
        try simp only [Act.put, List.getElem_toArray, List.getElem_cons_succ, List.getElem_cons_zero, List.setIfInBounds_toArray, List.set_cons_zero, List.set_cons_succ]
        refine wpAnyH_take (i := 20) (v := ?_) rfl (by kernel_rfl) (by kernel_rfl) (by kernel_rfl) (fun _ _ _ h => h) (Or.inl ⟨by rfl, ?_⟩) (by assumption) ?_
        rotate_left
        · (intro W hSw; (try dsimp only at hSw); go_simp) <;> with_reducible rfl
        try simp only [Act.put, List.getElem_toArray, List.getElem_cons_succ, List.getElem_cons_zero, List.setIfInBounds_toArray, List.set_cons_zero, List.set_cons_succ]
        refine wpAnyH_take (i := 21) (v := ?_) rfl (by kernel_rfl) (by kernel_rfl) (by kernel_rfl) (fun _ _ _ h => h) (Or.inl ⟨by rfl, ?_⟩) (by assumption) ?_
        rotate_left
        · (intro W hSw; (try dsimp only at hSw); go_simp) <;> with_reducible rfl
        try simp only [Act.put, List.getElem_toArray, List.getElem_cons_succ, List.getElem_cons_zero, List.setIfInBounds_toArray, List.set_cons_zero, List.set_cons_succ]
        refine wpAnyH_ready (rs := [18]) (by kernel_rfl) (by simp) ?_
        refine AllReadyH.cons (o := _) rfl (fun K hK => ?_) AllReadyH.nil
        go_simp
        go_at_call 18
        refine (load0 mem4 hHeld.1 HS4.out HLL.out).mono ?_
        rintro e w8 ⟨g8, rfl, hb8, hc8⟩
        refine hK.out _ _ ?_ (fun hHeld => ?_)
        · exact over_keep2 (.inr rfl) hal HLL.out (over_fst hHeld) hb8
        clear hK K
        try simp only [Act.put, List.getElem_toArray, List.getElem_cons_succ, List.getElem_cons_zero, List.setIfInBounds_toArray, List.set_cons_zero, List.set_cons_succ]
        refine wpAnyH_ready (rs := [19]) (by kernel_rfl) (by simp) ?_
        refine AllReadyH.cons (o := _) rfl (fun K hK => ?_) AllReadyH.nil
        go_simp
        refine hK.out _ _ ?_ (fun hHeld => ?_)
        · exact hHeld
        clear hK K
        try simp only [Act.put, List.getElem_toArray, List.getElem_cons_succ, List.getElem_cons_zero, List.setIfInBounds_toArray, List.set_cons_zero, List.set_cons_succ]
        refine wpAnyH_take (i := 22) (v := ?_) rfl (by kernel_rfl) (by kernel_rfl) (by kernel_rfl) (fun _ _ _ h => h) (Or.inl ⟨by rfl, ?_⟩) (by assumption) ?_
        rotate_left
        · (intro W hSw; (try dsimp only at hSw); go_simp) <;> with_reducible rfl
        try simp only [Act.put, List.getElem_toArray, List.getElem_cons_succ, List.getElem_cons_zero, List.setIfInBounds_toArray, List.set_cons_zero, List.set_cons_succ]
        refine wpAnyH_take (i := 23) (v := ?_) rfl (by kernel_rfl) (by kernel_rfl) (by kernel_rfl) (fun _ _ _ h => h) (Or.inl ⟨by rfl, ?_⟩) (by assumption) ?_
        rotate_left
        · (intro W hSw; (try dsimp only at hSw); go_simp) <;> with_reducible rfl
        try simp only [Act.put, List.getElem_toArray, List.getElem_cons_succ, List.getElem_cons_zero, List.setIfInBounds_toArray, List.set_cons_zero, List.set_cons_succ]
        refine wpAnyH_take (i := 24) (v := ?_) rfl (by kernel_rfl) (by kernel_rfl) (by kernel_rfl) (fun _ _ _ h => h) (Or.inl ⟨by rfl, ?_⟩) (by assumption) ?_
        rotate_left
        · (intro W hSw; (try dsimp only at hSw); go_simp) <;> with_reducible rfl
        try simp only [Act.put, List.getElem_toArray, List.getElem_cons_succ, List.getElem_cons_zero, List.setIfInBounds_toArray, List.set_cons_zero, List.set_cons_succ]
        refine wpAnyH_ready (rs := [25]) (by kernel_rfl) (by simp) ?_
        refine AllReadyH.cons (o := _) rfl (fun K hK => ?_) AllReadyH.nil
        go_simp
        go_at_call 9
        refine (wakes_call _).mono ?_
        rintro e w9 ⟨rfl, hb9⟩
        refine hK.out _ _ ?_ (fun hHeld => ?_)
        · exact over_keep2 (.inr rfl) hal HLL.out (over_fst hHeld) hb9
        clear hK K
        try simp only [Act.put, List.getElem_toArray, List.getElem_cons_succ, List.getElem_cons_zero, List.setIfInBounds_toArray, List.set_cons_zero, List.set_cons_succ]
        refine wpAnyH_take (i := 26) (v := ?_) rfl (by kernel_rfl) (by kernel_rfl) (by kernel_rfl) (fun _ _ _ h => h) (Or.inl ⟨by rfl, ?_⟩) (by assumption) ?_
        rotate_left
        · (intro W hSw; (try dsimp only at hSw); go_simp) <;> with_reducible rfl
        try simp only [Act.put, List.getElem_toArray, List.getElem_cons_succ, List.getElem_cons_zero, List.setIfInBounds_toArray, List.set_cons_zero, List.set_cons_succ]
        refine wpAnyH_take (i := 27) (v := ?_) rfl (by kernel_rfl) (by kernel_rfl) (by kernel_rfl) (fun _ _ _ h => h) (Or.inl ⟨by rfl, ?_⟩) (by assumption) ?_
        rotate_left
        · (intro W hSw; (try dsimp only at hSw); go_simp) <;> with_reducible rfl
        try simp only [Act.put, List.getElem_toArray, List.getElem_cons_succ, List.getElem_cons_zero, List.setIfInBounds_toArray, List.set_cons_zero, List.set_cons_succ]
        refine wpAnyH_done (by kernel_rfl) ?_ _
        refine NoPanic.normal ?_
        go_wp2
        go_ret
        exact ⟨rfl, hHeld.2.2.2.2.2.2.1⟩
    · have hh' : hasB n ta tn = false := by simpa using hh
      rw [hh']
      have HH := Lib.hid hh'
      clear hh hh'
      go_wp2_with fail
      have HSD := Lib.hid (over_keep HLL.out HS6.out ((Below.refl _ _).drew))
      have hSD := HSD.out
      go_region_with (first
          | (go_at_call 18; ((with_reducible refine (load_no (And.left (by assumption)) ta tn htn HH.out).mono ?_); rintro e w7 ⟨rfl, hb7⟩; have hS7 := over_keep HLL.out HSD.out hb7; have HS7 := Lib.hid hS7; clear hSD hb7))
          | (go_at_call 18; ((with_reducible refine (load0 mem4 (And.left (by assumption)) HS4.out HLL.out).mono ?_); rintro e w8 ⟨g8, rfl, hb8, hc8⟩; have hS8 := over_keep HLL.out HS7.out hb8; have HS8 := Lib.hid hS8; clear hS7 hb8))
          | (go_at_call 9; ((with_reducible refine (wakes_call _).mono ?_); rintro e w9 ⟨rfl, hb9⟩)))
      all_goals
        go_wp2
        go_ret
        exact ⟨rfl, (HS8.out.2.2.2.2.2.2.1).trans (hb9.mono (HS8.out.2.2.2.2.2.2.1).size)⟩

theorem over_call (a0 : Option Addr) (len0 cap0 : Nat) (z0 : List Int) (sa sn ta tn i c : Int) (w : World) (h0 : IsRow .u8 w a0 len0 cap0 z0) (h1 : (Lit.int .i64 sn).wf = true) (h2 : (Lit.int .i64 tn).wf = true) (h3 : (Lit.int .u8 c).wf = true) :
    Calls Try.prog 7 #[.slice a0 len0 cap0, .agg #[.int .i64 sa, .int .i64 sn], .agg #[.int .i64 ta, .int .i64 tn], .int .i64 i, .int .u8 c] w fun e w' => e = .returned (.bool true) ∧ Below w.heap.size w w' := by
  obtain ⟨hl, hs, hwf, h63, hcap⟩ := h0.src
  by_cases h : 200 < len0
  · exact over_long a0 len0 cap0 sa sn ta tn i c w h h63
  · have b1 := bounds_i64 h1
    have b2 := bounds_i64 h2
    have b3 := bounds_u8 h3
    have := over_short a0 cap0 sa sn ta tn i c w (z0.take len0) hs (Byts.of_wf hwf) (by omega) b3 (by omega) (by omega)
    rw [hl] at this
    exact this
end Go.Proofs.Ytfmmachfcfngkaa
