/- rows of the reference. -/
import Derived.Test.YtemjlmeakkknbaaLe
import Derived.Test.YtemjlmeakkknbaaPt
import Derived.Test.YtemjlmeakkknbaaRo
import Derived.StillTailTactics
set_option linter.unusedVariables false
set_option linter.unusedSimpArgs false
namespace Go.Proofs.Ytemjlmeakkknbaa
open Go.RowKit


/-- A slice that holds a row. -/
structure OkT (w : World) (d : Sl) (q : List Th) : Prop where
  src : SrcT w d.a q
  len : d.n = q.length
  cap : d.n ≤ d.c
  max : d.c ≤ maxLen
theorem OkT.on {w w' : World} {d : Sl} {q : List Th} (h : OkT w d q) (hb : Below w.heap.size w w') : OkT w' d q := ⟨h.src.on hb, h.len, h.cap, h.max⟩
theorem OkT.ch {S : Nat → Prop} {w w' : World} {d : Sl} {q : List Th} (h : OkT w d q) (hc : Ch S w w') (hn : ∀ x, d.a = some x → ¬ S x.block) : OkT w' d q := ⟨h.src.ch hc hn, h.len, h.cap, h.max⟩
theorem thsT : Try.prog.underlying 47 = some (.slice 57) := Try.underlying47
theorem thsI : (Try.prog.info? 57).map (fun i => (i.zero, i.size, i.bytes)) = some (some (.slice none 0 0), 1, 24) := by kernel_rfl

/-- The first rows, in a slice of the call's own. -/
structure RwT (A0 : Option Nat) (w : World) (lv : List (Int × Int)) (A : Option Nat) (c k : Nat) (D : List Sl) (wr : World) : Prop where
  own : OwnC wr 57 1 A c k (D.map slC)
  ok : ∀ (j : Nat) (d : Sl), D[j]? = some d → OkT wr d (tagL 0 (rowR lv j))
  new : ∀ g, A = some g → w.heap.size ≤ g
  apart : ∀ (j : Nat) (d : Sl) (x : Addr), D[j]? = some d → d.a = some x → A ≠ some x.block
  lt : ∀ (j : Nat) (d : Sl) (x : Addr), D[j]? = some d → d.a = some x → x.block < wr.heap.size
  old : ∀ (j : Nat) (d : Sl) (x : Addr), D[j]? = some d → d.a = some x → A0 = some x.block ∨ w.heap.size ≤ x.block
  bel : Below w.heap.size w wr
theorem RwT.dlen {A0 : Option Nat} {w : World} {lv : List (Int × Int)} {A : Option Nat} {c k : Nat} {D : List Sl} {wr : World} (h : RwT A0 w lv A c k D wr) : D.length = k := by
  have := h.own.len
  rw [List.length_map] at this
  omega
theorem RwT.on {A0 : Option Nat} {w : World} {lv : List (Int × Int)} {A : Option Nat} {c k : Nat} {D : List Sl} {wr w' : World} (h : RwT A0 w lv A c k D wr) (hb : Below wr.heap.size wr w') : RwT A0 w lv A c k D w' :=
  ⟨h.own.on hb, fun j d e => (h.ok j d e).on hb, h.new, h.apart, fun j d x e k => Nat.lt_of_lt_of_le (h.lt j d x e k) hb.size, h.old, h.bel.trans (hb.mono h.bel.size)⟩
theorem RwT.get {A0 : Option Nat} {w : World} {lv : List (Int × Int)} {A : Option Nat} {c k : Nat} {D : List Sl} {wr : World} (h : RwT A0 w lv A c k D wr) {j : Nat} (hj : j < k) :
    ∃ g d, A = some g ∧ wr.cell? ⟨g, j, none⟩ = some (slC d) ∧ OkT wr d (tagL 0 (rowR lv j)) ∧ ∀ x, d.a = some x → A0 = some x.block ∨ w.heap.size ≤ x.block := by
  have hl := h.dlen
  have hd : D[j]? = some (D[j]'(by omega)) := List.getElem?_eq_getElem (by omega)
  obtain ⟨g, o, e, hc⟩ := h.own.src.pos (by rw [List.length_map]; omega)
  cases A with
  | none => cases e
  | some g' =>
    injection e with e
    injection e with e1 e2 _
    subst e1 e2
    refine ⟨g', _, rfl, ?_, h.ok j _ hd, fun x hx => h.old j _ x hd hx⟩
    have := hc j (slC (D[j]'(by omega))) (by rw [List.getElem?_map, hd]; rfl)
    rw [Nat.zero_add] at this
    exact this
theorem RwT.app {A0 : Option Nat} {w : World} {lv : List (Int × Int)} {A A' : Option Nat} {c c' k : Nat} {D : List Sl} {wr w2 : World} {d : Sl} (h : RwT A0 w lv A c k D wr) (hd : OkT wr d (tagL 0 (rowR lv k))) (hnd : ∀ x, d.a = some x → A ≠ some x.block ∧ x.block < wr.heap.size) (hno : ∀ x, d.a = some x → w.heap.size ≤ x.block)
    (h1 : OwnC w2 57 1 A' c' (k + 1) (D.map slC ++ [slC d])) (h2 : wr.grownBy w2 A) (h3 : A' = A ∨ A' = some wr.heap.size) : RwT A0 w lv A' c' (k + 1) (D ++ [d]) w2 := by
  have hl := h.dlen
  have hch : Ch (fun y => A = some y) wr w2 := Ch.of_grown h2 (fun y e => e)
  have hall : ∀ (j : Nat) (e : Sl), (D ++ [d])[j]? = some e → OkT wr e (tagL 0 (rowR lv j)) ∧ ∀ x, e.a = some x → A ≠ some x.block ∧ x.block < wr.heap.size := by
    intro j e he
    by_cases hj : j < k
    · rw [List.getElem?_append_left (by omega)] at he
      exact ⟨h.ok j e he, fun x hx => ⟨h.apart j e x he hx, h.lt j e x he hx⟩⟩
    · rw [List.getElem?_append_right (by omega), hl] at he
      by_cases hjk : j = k
      · subst hjk
        rw [Nat.sub_self] at he
        simp at he
        subst he
        exact ⟨hd, hnd⟩
      · rw [List.getElem?_eq_none (by simp; omega)] at he
        cases he
  refine ⟨by rw [List.map_append]; exact h1, fun j e he => ((hall j e he).1).ch hch (fun x hx => ((hall j e he).2 x hx).1), fun g e => ?_, fun j e x he hx => ?_, fun j e x he hx => Nat.lt_of_lt_of_le ((hall j e he).2 x hx).2 h2.size, fun j e x he hx => ?_, h.bel.grown h2 h.bel.size (fun g e => h.new g e)⟩
  · rcases h3 with h3 | h3
    · exact h.new g (h3 ▸ e)
    · rw [h3] at e
      injection e with e
      subst e
      exact h.bel.size
  · obtain ⟨k1, k2⟩ := (hall j e he).2 x hx
    rcases h3 with h3 | h3
    · rw [h3]
      exact k1
    · rw [h3]
      intro e2
      injection e2 with e2
      omega
  · by_cases hj : j < k
    · rw [List.getElem?_append_left (by omega)] at he
      exact h.old j e x he hx
    · rw [List.getElem?_append_right (by omega), hl] at he
      by_cases hjk : j = k
      · subst hjk
        rw [Nat.sub_self] at he
        simp at he
        subst he
        exact .inr (hno x hx)
      · rw [List.getElem?_eq_none (by simp; omega)] at he
        cases he

theorem below_al' (w : World) (o : Obj) : Below w.heap.size w (w.alloc o) := (Below.refl _ _).alloc (Nat.le_refl _) o
theorem grow_at {w wr w3 : World} {A : Option Nat} (hb : Below w.heap.size w wr) (hn : ∀ g, A = some g → w.heap.size ≤ g) (k : Nat) (o : Obj) (h2 : ((wr.drewN k).alloc o).grownBy w3 A) : Below w.heap.size w w3 :=
  ((hb.drewN k).alloc (by simpa using hb.size) o).grown h2 (by simpa using Nat.le_succ_of_le hb.size) hn
theorem fresh_at {w wr : World} {A A' : Option Nat} (hb : Below w.heap.size w wr) (hn : ∀ g, A = some g → w.heap.size ≤ g) (k : Nat) (o : Obj) (h3 : A' = A ∨ A' = some ((wr.drewN k).alloc o).heap.size) : ∀ g, A' = some g → w.heap.size ≤ g :=
  fresh_app hn (Nat.le_trans hb.size (by simp)) h3
/-- The first leaves as things. -/
def lfT (lv : List (Int × Int)) (k : Nat) : List Th := (lv.take k).map fun x => (x, (0, 0))
theorem lfT_len (lv : List (Int × Int)) (k : Nat) (hk : k ≤ lv.length) : (lfT lv k).length = k := by rw [lfT, List.length_map, List.length_take]; omega
theorem lfT_succ (lv : List (Int × Int)) (k : Nat) (hk : k < lv.length) : lfT lv (k + 1) = lfT lv k ++ [(lv[k], (0, 0))] := by
  rw [lfT, lfT, List.take_add_one, List.getElem?_eq_getElem hk, Option.toList_some, List.map_append]
  rfl
theorem lfT_all {lv : List (Int × Int)} (h : ∀ x ∈ lv, 0 ≤ x.1) : lfT lv lv.length = tagL 0 lv := by rw [lfT, List.take_of_length_le (Nat.le_refl _), tagL_leaves 0 h]
theorem tagL_get {l : List (Int × Int)} {i : Nat} (hi : i < l.length) : ((tagL 0 l)[i]'(by rw [tagL_length]; exact hi)).1 = l[i] := by
  have h := tagL_at 0 l i hi
  rw [List.getElem?_eq_getElem (by rw [tagL_length]; exact hi)] at h
  injection h with h
  rw [h]
/-- What rows answers. -/
def RowsR (w : World) (lv : List (Int × Int)) (L : Nat) (e : Ending) (w' : World) : Prop := ∃ A c D, e = .returned (.slice (ad0 A) L c) ∧ RwT none w lv A c L D w'

set_option maxRecDepth 100000 in
set_option maxHeartbeats 4000000 in
theorem rrows_call (t : List Int) (ht : Tal t) (hv : VT t) (L : Nat) (hL : 1 ≤ L) (hL15 : L ≤ 15) (w : World) :
    Calls Try.prog 22 #[.agg (tl t), .int .i64 L] w (RowsR w (lvT t) L) := by
  have HOV := Lib.hid (show ordV t = ordL t from if_pos hv)
  have hro := fun w => rorder_call t ht w
  have hlen := ordL_len t
  have hle := lvT_le t
  rw [ht.1] at hle
  have HSYM := Lib.hid (lvT_sy t ht.1)
  have HLV := Lib.hid (lvT_lvs t)
  have HAT := Lib.hid (ordL_at t)
  have HW := Lib.hid (lvT_w hv)
  rw [show ordV t = ordL t from if_pos hv] at hro
  obtain ⟨lv, hlv⟩ : ∃ lv, lv = lvT t := ⟨_, rfl⟩
  rw [← hlv] at hlen hle HSYM HLV HW
  rw [← hlv]
  have HLVE := Lib.hid hlv
  obtain ⟨od, hod⟩ : ∃ od, od = ordL t := ⟨_, rfl⟩
  rw [← hod] at hro hlen HAT
  obtain ⟨n, hn⟩ : ∃ n, n = lv.length := ⟨_, rfl⟩
  rw [← hn] at hle hlen
  rw [hlen] at hro
  have HN := Lib.hid hn
  have HOL := Lib.hid hlen
  have HA2 : RowKit.Hid (∀ (i : Nat) (hi : i < lv.length), ∃ s : Nat, od.getD i 0 = s ∧ s < 258 ∧ lv[i] = ((s : Int), t.getD s 0)) := Lib.hid (fun i hi => by
    obtain ⟨s, h1, h2, h3, h4⟩ := HAT.out i (by rw [← HLVE.out]; exact hi)
    have hm := HSYM.out _ (List.getElem_mem hi)
    have e : lv[i] = ((s : Int), t.getD s 0) := by
      have e2 : (lvT t)[i]'(by rw [← HLVE.out]; exact hi) = lv[i] := by congr 1; exact HLVE.out.symm
      rw [← e2, h4]
    rw [e] at hm
    exact ⟨s, h1, by omega, e⟩)
  clear hn hod hlv hlen HAT HLVE HOV
  go_enter Try.func22, Try.ntmps22
  go_upto_region 1 with fail
  have hg := heap_alloc_last w (.cells (tl t) 23)
  have hb : Below w.heap.size w (w.alloc (.cells (tl t) 23)) := (Below.refl _ _).alloc (Nat.le_refl _) _
  generalize w.alloc (.cells (tl t) 23) = w1 at hg hb ⊢
  go_wp2_with (first
    | (refine wpList_load_row rfl 23 _ rfl w.heap.size rfl 23 (tl t) (0, 0) _ hg Try.underlying23 rfl (talIk ht) ?_)
    | (with_reducible refine (hro _).mono ?_; rintro e w2 ⟨oa, oc, rfl, hos, hob⟩))
  have hg2 := heap_on hob hg
  have HB2 := Lib.hid (hb.trans (hob.mono hb.size))
  have HG2 := Lib.hid hg2
  have HOS := Lib.hid hos
  clear hro hg hb hob hg2 hos
  go_loopw [6, 7] (fun s6 s7 wr => ∃ (k : Nat) (A : Option Nat) (c : Nat), k ≤ n ∧ s7 = .int .i64 k ∧ s6 = .slice (ad0 A) k c ∧ OwnT wr A c (lfT lv k) ∧ (∀ g, A = some g → w2.heap.size ≤ g) ∧ Below w2.heap.size w2 wr) (fun _ s7 _ => n - (intOf s7).toNat)
  case atStart => exact ⟨0, none, 0, by omega, rfl, rfl, OwnT.nil _, (fun g e => by cases e), Below.refl _ _⟩
  case round =>
    obtain ⟨k, A, c, hk, rfl, rfl, hown, hnew, hbl⟩ := hrel
    have hkl : (lfT lv k).length = k := lfT_len lv k (by rw [← HN.out]; exact hk)
    have HO : RowKit.Hid (OwnC wr 59 4 A c k (thsC (lfT lv k))) := Lib.hid (by unfold OwnT at hown; rw [hkl] at hown; exact hown)
    have HNW := Lib.hid hnew
    have HBL := Lib.hid hbl
    clear hown hnew hbl hkl
    by_cases hlt : k < n
    · obtain ⟨s, hs, hs8, hlvk⟩ := HA2.out k (by rw [← HN.out]; exact hlt)
      obtain ⟨ag, ao, rfl, hco⟩ := (HOS.out.below HBL.out).get (j := k) (by rw [HOL.out]; exact hlt)
      rw [hs] at hco
      have hct := tl_cell (heap_on HBL.out HG2.out) ht s hs8
      have hsI : (s : Int) < 258 := by omega
      have HSU := Lib.hid (lfT_succ lv k (by rw [← HN.out]; exact hlt))
      rw [hlvk] at HSU
      obtain ⟨T, hT⟩ : ∃ T, T = t.getD s 0 := ⟨_, rfl⟩
      rw [← hT] at hct HSU
      have HTE := Lib.hid hT.symm
      have HSE := Lib.hid hs
      clear hT
      have hagl : ag < w2.heap.size := (HOS.out.lt (by rw [HOL.out]; omega)) _ rfl
      clear hs hlvk
      go_upto_region 6 with fail
      go_region_held3 (fun W => W.cell? ⟨ag, ao + k, none⟩ = some (.int .i64 s) ∧ W.cell? ⟨w.heap.size, s, none⟩ = some (.int .i64 T)) (first | go_keep | assumption | exact ⟨by assumption, by assumption⟩) ((
        refine op_appendC rfl _ _ 57 rfl 59 _ 4 32 thT thI rfl (by decide) A c k (thsC (lfT lv k)) rfl ((HO.out.drewN _).alloc _) (some ⟨_, 0, none⟩) 1 1 rfl (thsC [(((s : Int), T), (0, 0))]) rfl (CS.lit (heap_alloc_new _ _)) (thsC_cell _) (by unfold maxLen; omega) (by omega) ?_
        intro A' c' w3 h1 h2 h3
        have hbl3 := grow_at HBL.out HNW.out _ _ h2
        have hfr3 := fresh_at HBL.out HNW.out _ _ h3
        have k1 := ((HOS.out.below hbl3).get (j := k) (by rw [HOL.out]; exact hlt))
        have k2 := tl_cell (heap_on hbl3 HG2.out) ht s hs8
        rw [HTE.out] at k2
        obtain ⟨ag', ao', e, k1⟩ := k1
        injection e with e
        injection e with e1 e2 _
        subst e1 e2
        rw [HSE.out] at k1
        clear h2 h3))
      go_wp2_with fail
      refine ⟨⟨k + 1, A', c', by omega, by go_num, rfl, ?_, hfr3, hbl3⟩, by simp [intOf]; omega⟩
      rw [HSU.out]
      exact OwnT.app h1 (by rw [lfT_len lv k (by rw [← HN.out]; exact hk)]) rfl
    · obtain rfl : k = n := by omega
      have hall := lfT_all (lv := lv) (fun x hx => (HSYM.out x hx).1)
      rw [← HN.out] at hall
      rw [hall] at HO
      have HRW0 : RowKit.Hid (OkT wr ⟨ad0 A, k, c⟩ (tagL 0 (rowR lv 0))) := Lib.hid ⟨CS.on (OwnC.src HO.out) (Below.refl _ _), by show k = _; rw [tagL_length, HN.out]; rfl, HO.out.cap.1, HO.out.cap.2⟩
      have hbk : ∀ x, ad0 A = some x → x.block < wr.heap.size ∧ w.heap.size ≤ x.block := fun x hx => by
        cases A with
        | none => cases hx
        | some g =>
          injection hx with hx
          obtain rfl : x = ⟨g, 0, none⟩ := hx.symm
          exact ⟨HO.out.lt rfl, Nat.le_trans HB2.out.size (HNW.out g rfl)⟩
      have HBK := Lib.hid hbk
      have HBW := Lib.hid (HB2.out.trans (HBL.out.mono HB2.out.size))
      have hcapl := HO.out.cap
      have HCAPL := Lib.hid hcapl
      clear HA2 HOS HG2 hall hbk hlt HB2 HBL HNW HOL
      go_wp2_with fail
      obtain ⟨wl, hwl⟩ : ∃ wl, wl = wr := ⟨_, rfl⟩
      subst hwl
      go_loopw [8, 9] (fun s8 s9 wx => ∃ (m : Nat) (A1 : Option Nat) (c1 : Nat) (D : List Sl), 1 ≤ m ∧ m ≤ L ∧ s9 = .int .i64 m ∧ s8 = .slice (ad0 A1) m c1 ∧ RwT none w lv A1 c1 m D wx ∧ Below wl.heap.size wl wx ∧ (∀ y, A1 = some y → wl.heap.size ≤ y)) (fun _ s9 _ => L - (intOf s9).toNat)
      case atStart =>
        have hb1 : Below wl.heap.size wl (wl.alloc (.cells #[.slice (ad0 A) k c] 57)) := (Below.refl _ _).alloc (Nat.le_refl _) _
        refine ⟨1, some wl.heap.size, 1, [⟨ad0 A, k, c⟩], Nat.le_refl _, hL, rfl, rfl, ⟨OwnC.made (heap_alloc_new wl _) (by unfold maxLen; omega) (by omega) (by simp) (by simp [slC]), fun j d e => ?_, fun g e => ?_, fun j d x e hx => ?_, fun j d x e hx => ?_, fun j d x e hx => ?_, HBW.out.trans (hb1.mono HBW.out.size)⟩, hb1, fun y e => by injection e with e; omega⟩
        · match j, e with
          | 0, e =>
            simp at e
            subst e
            exact HRW0.out.on hb1
          | j + 1, e => simp at e
        · injection e with e
          have := HBW.out.size
          omega
        · match j, e with
          | 0, e =>
            simp at e
            subst e
            have := (HBK.out x hx).1
            intro e2
            injection e2 with e2
            omega
          | j + 1, e => simp at e
        · match j, e with
          | 0, e =>
            simp at e
            subst e
            have := (HBK.out x hx).1
            simp
            omega
          | j + 1, e => simp at e
        · match j, e with
          | 0, e =>
            simp at e
            subst e
            exact .inr (HBK.out x hx).2
          | j + 1, e => simp at e
      case round =>
        obtain ⟨m, A1, c1, D, hm1, hmL, rfl, rfl, hrw, hbx, hnx⟩ := hrel
        have HNX := Lib.hid hnx
        clear hnx
        by_cases hmlt : m < L
        · obtain ⟨g, d, rfl, hcell, hok, -⟩ := hrw.get (j := m - 1) (by omega)
          have had : ad0 (some g) = some ⟨g, 0, none⟩ := rfl
          obtain ⟨da, dn, dc⟩ := d
          have hwk : IntKind.i64.wrap ((m : Int) - 1) = (m : Int) - 1 := by rw [IntKind.wrap_i64]; omega
          have hki : ((m : Int) - 1).toNat = m - 1 := by omega
          have hk0 : (0 : Int) ≤ (m : Int) - 1 := by omega
          have hk2 : (m : Int) - 1 < (m : Int) := by omega
          have hcl : wr.cell? ⟨g, m - 1, none⟩ = some (.slice da dn dc) := hcell
          have hrow : rowR lv m = mgR lv (pkR (rowR lv (m - 1))) := by
            obtain ⟨m', rfl⟩ : ∃ m', m = m' + 1 := ⟨m - 1, by omega⟩
            rfl
          have hdn : dn = (rowR lv (m - 1)).length := by have := hok.len; rw [tagL_length] at this; exact this
          have hlen := row_len_le lv (m - 1)
          have hpw : 2 ^ (m - 1) ≤ 2 ^ 14 := Nat.pow_le_pow_right (by omega) (by omega)
          have hbd := row_bd HW.out (m - 1)
          have HBD : RowKit.Hid (∀ x ∈ rowR lv (m - 1), 0 ≤ x.2 ∧ x.2 ≤ 35184372072448) := Lib.hid (fun x hx => by
            have := hbd x hx
            have h3 : ((2 ^ (m - 1) : Nat) : Int) ≤ 16384 := by omega
            omega)
          have HROW := Lib.hid hrow
          have hpl := pkR_length (rowR lv (m - 1))
          have HPG := Lib.hid (pkR_get (rowR lv (m - 1)))
          have HPS := Lib.hid (pkR_srt (rowR_srt HLV.out.srt (m - 1)))
          have HPY := Lib.hid (pkR_sym (rowR lv (m - 1)))
          have hkn := HN.out
          have HK0 : RowKit.Hid (k = 0 → dn = 0) := Lib.hid (fun h => by omega)
          have hd516 : dn ≤ 516 := by omega
          have HOKD := Lib.hid hok
          have HRW := Lib.hid hrw
          have HBX := Lib.hid hbx
          generalize rowR lv (m - 1) = R at hdn HBD HROW hpl HPG HPS HOKD
          have HDN := Lib.hid hdn
          obtain ⟨P, hP⟩ : ∃ P, P = pkR R := ⟨_, rfl⟩
          rw [← hP] at hpl HPG HPS HROW
          replace HPY : RowKit.Hid (∀ x ∈ P, x.1 = -1) := Lib.hid (by rw [hP]; exact pkR_sym R)
          have HPL := Lib.hid hpl
          clear hcell hok hrow hdn hlen hpw hbd hpl hkn hrw hP
          go_upto_region 13 with (
            refine wpList_appendC rfl _ _ 57 rfl 59 _ 4 32 thT thI rfl (by decide) (some wr.heap.size) 0 0 [] rfl (OwnC.made (heap_alloc_new wr _) (by unfold maxLen; omega) (Nat.le_refl _) rfl rfl) (ad0 A) k c rfl (thsC (tagL 0 lv)) (by rw [thsC_len, tagL_length, ← HN.out]) (CS.on (OwnC.src HO.out) (HBX.out.trans ((below_al' wr _).mono HBX.out.size))) (thsC_cell _) (by unfold maxLen; omega) (by omega) ?_
            intro A2 c2 w3 h1 h2 h3)
          rw [Nat.zero_add, List.nil_append] at h1
          have hb3 : Below wr.heap.size wr w3 := ((below_al' wr _).mono (Nat.le_refl _)).grown h2 (by simp) (fun g e => by injection e with e; omega)
          have hf3 : ∀ y, A2 = some y → wr.heap.size ≤ y := fresh_app (w := wr) (fun y e => by injection e with e; omega) (by simp) h3
          have HT0 : RowKit.Hid (OwnT w3 A2 c2 (tagL 0 (mgR lv (P.take 0)))) := Lib.hid (by
            rw [List.take_zero, mgR_nil']
            unfold OwnT
            rw [tagL_length, ← HN.out]
            exact h1)
          have HB3 := Lib.hid hb3
          have HF3 := Lib.hid hf3
          clear h1 h2 h3 hb3 hf3
          obtain ⟨wo, hwo⟩ : ∃ wo, wo = wr := ⟨_, rfl⟩
          subst hwo
          go_wp2_with fail
          go_loopw [11, 12] (fun s11 s12 wz => ∃ (p u : Nat) (A3 : Option Nat) (c3 : Nat), s12 = .int .i64 (2 * (p : Int)) ∧ s11 = .slice (ad0 A3) u c3 ∧ p ≤ P.length ∧ u = k + p ∧ OwnT wz A3 c3 (tagL 0 (mgR lv (P.take p))) ∧ (∀ y, A3 = some y → wo.heap.size ≤ y) ∧ Below wo.heap.size wo wz) (fun _ s12 _ => dn + 2 - (intOf s12).toNat)
          case atStart => exact ⟨0, k, A2, c2, rfl, rfl, Nat.zero_le _, rfl, HT0.out, HF3.out, HB3.out⟩
          case round =>
            clear HT0 HF3 HB3
            obtain ⟨p, u, A3, c3, rfl, rfl, hpP, hu, hown, hfr, hbz⟩ := hrel
            have HOW := Lib.hid hown
            have HFR := Lib.hid hfr
            have HBZ := Lib.hid hbz
            have HUU := Lib.hid hu
            have hu600 : u ≤ 600 := by have := HPL.out; have := HDN.out; omega
            clear hu
            have hPn := HPL.out
            have hpb : p ≤ 258 := by have := HDN.out; omega
            clear hown hfr hbz
            have g1 : IntKind.i64.wrap (2 * (p : Int) + 1) = 2 * (p : Int) + 1 := by rw [IntKind.wrap_i64]; omega
            have g4 : IntKind.i64.wrap (2 * (p : Int) + 2) = 2 * (p : Int) + 2 := by rw [IntKind.wrap_i64]; omega
            have g2 : (2 * (p : Int)).toNat = 2 * p := by omega
            have g3 : (2 * (p : Int) + 1).toNat = 2 * p + 1 := by omega
            by_cases hpd : 2 * p + 1 < dn
            · have hpdI : 2 * (p : Int) + 1 < (dn : Int) := by omega
              have hpd0 : 2 * (p : Int) < (dn : Int) := by omega
              have hpd1 : (0 : Int) ≤ 2 * (p : Int) := by omega
              have hpd2 : (0 : Int) ≤ 2 * (p : Int) + 1 := by omega
              have hR1 : 2 * p < R.length := by rw [← HDN.out]; omega
              have hR2 : 2 * p + 1 < R.length := by rw [← HDN.out]; omega
              have hsrc : SrcT wo da (tagL 0 R) := HOKD.out.src
              obtain ⟨rg, ro, hda, hrgl⟩ := hsrc.some (by rw [tagL_length]; omega)
              have hsz := hsrc.on HBZ.out
              subst hda
              obtain ⟨x0, _, _, _⟩ := hsz.get (j := 2 * p) (by rw [tagL_length]; exact hR1)
              obtain ⟨y0, _, _, _⟩ := hsz.get (j := 2 * p + 1) (by rw [tagL_length]; exact hR2)
              rw [tagL_get hR1] at x0
              rw [tagL_get hR2] at y0
              have hget := HPG.out p (by rw [← HDN.out]; omega)
              rw [List.getD_eq_getElem?_getD, List.getElem?_eq_getElem hR1, List.getD_eq_getElem?_getD, List.getElem?_eq_getElem hR2] at hget
              simp only [Option.getD_some] at hget
              have b1 := HBD.out _ (List.getElem_mem hR1)
              have b2 := HBD.out _ (List.getElem_mem hR2)
              generalize R[2 * p].2 = X at x0 hget b1
              generalize R[2 * p + 1].2 = Y at y0 hget b2
              have hk1 : 0 < k := by
                have h9 := HN.out
                rcases Nat.eq_zero_or_pos k with h0 | h0
                · exfalso
                  have h8 := HDN.out
                  have h7 := HK0.out h0
                  omega
                · exact h0
              obtain ⟨og, rfl⟩ := HOW.out.pos (by rw [tagL_length, mgR_length, ← HN.out]; omega)
              have had3 : ad0 (some og) = some ⟨og, 0, none⟩ := rfl
              have hwx : IntKind.i64.wrap (X + Y) = X + Y := by rw [IntKind.wrap_i64]; omega
              have hPt : P.take (p + 1) = P.take p ++ [(-1, X + Y)] := by rw [List.take_add_one, hget]; rfl
              have HPT := Lib.hid hPt
              have hMs : Srt (mgR lv (P.take p)) := mgR_srt _ _ HLV.out.srt (List.Pairwise.sublist (List.take_sublist _ _) HPS.out)
              have hul : u = (tagL 0 (mgR lv (P.take p))).length := by rw [tagL_length, mgR_length, ← HN.out, HUU.out, List.length_take, Nat.min_eq_left hpP]
              obtain ⟨M, hM⟩ : ∃ M, M = tagL 0 (mgR lv (P.take p)) := ⟨_, rfl⟩
              have hMs2 : Srt (M.map (·.1)) := by rw [hM, tagL_fst]; exact hMs
              rw [← hM] at hul HOW
              have hcm := HOW.out.cap
              rw [← hul] at hcm
              have HPC : RowKit.Hid (∀ w : World, SrcT w (some ⟨og, 0, none⟩) M → Calls Try.prog 27 #[.slice (some ⟨og, 0, none⟩) u c3, .agg #[.int .i64 (X + Y), .int .i64 (-1), .int .i64 (2 * (p : Int)), .int .i64 (2 * (p : Int) + 1)]] w (PutR u M ((-1, X + Y), (2 * (p : Int), 2 * (p : Int) + 1)) w)) := Lib.hid (fun w h => put_call og 0 u c3 M ((-1, X + Y), (2 * (p : Int), 2 * (p : Int) + 1)) hul hcm.1 (by omega) hcm.2 hMs2 w h)
              have hpn : Calls Try.prog 27 #[.slice (some ⟨og, 0, none⟩) u c3, .agg #[.int .i64 (X + Y), .int .i64 (-1), .int .i64 (2 * (p : Int)), .int .i64 (2 * (p : Int) + 1)]] wr.drew (PutR u M ((-1, X + Y), (2 * (p : Int), 2 * (p : Int) + 1)) wr.drew) := HPC.out _ (OwnT.src (HOW.out.on (Below.refl _ _).drew))
              have HME := Lib.hid hM
              clear hM hMs2 hcm HPC
              have HUL := Lib.hid hul
              clear hMs hPt hget hul
              go_upto_region 16 with fail
              go_still_tail 17, (by kernel_rfl)
              change wpList _ _ _ _ _ wr.drew
              have hpc := hpn
              clear hpn
              go_wp2_with fail
              refine hpc.mono ?_
              rintro e w5 ⟨A5, c5, q5, rfl, hput, hnt⟩
              have HPU := Lib.hid hput
              have HNT := Lib.hid hnt
              clear hput hnt hpc
              go_wp2_with fail
              have hb5 : Below wo.heap.size wo w5 := HBZ.out.trans ((((Below.refl wr.heap.size wr).drew).trans (HNT.out.bel.mono (Nat.le_refl _))).mono HBZ.out.size)
              have hf5 : ∀ y, A5 = some y → wo.heap.size ≤ y := fun y e => Nat.le_trans HBZ.out.size (HNT.out.new y e)
              have hq5 : q5 = tagL 0 (mgR lv (P.take (p + 1))) := by
                obtain ⟨j, j1, j2, j3⟩ := HPU.out
                rw [HME.out, tagL_fst] at j1 j2
                have hsp : Srt (P.take (p + 1)) := List.Pairwise.sublist (List.take_sublist _ _) HPS.out
                rw [HPT.out] at hsp
                have hxp : ∀ b ∈ P.take p, b.2 ≤ X + Y := fun b hb => (List.pairwise_append.1 hsp).2.2 b hb _ (List.mem_singleton.2 rfl)
                have ht := tag_put (x := (-1, X + Y)) (fun y hy => (HSYM.out y hy).1) (fun b hb => HPY.out b (List.mem_of_mem_take hb)) rfl hxp j1 j2
                rw [HPT.out, ht, j3, HME.out, List.length_take, Nat.min_eq_left hpP]
              refine ⟨⟨p + 1, u + 1, A5, c5, by first | (congr 1; done) | (congr 1; omega), rfl, by have := HDN.out; omega, by have := HUU.out; omega, by rw [← hq5]; exact HNT.out.own, hf5, hb5⟩, by simp [intOf]; omega⟩
            · have hpe : p = P.length := by have := HDN.out; omega
              have HRZ := Lib.hid (HRW.out.on HBZ.out)
              have hrowe : tagL 0 (mgR lv (P.take p)) = tagL 0 (rowR lv m) := by rw [hpe, List.take_of_length_le (Nat.le_refl _), HROW.out]
              have HOWN : RowKit.Hid (OwnT wr A3 c3 (tagL 0 (rowR lv m))) := Lib.hid (by rw [← hrowe]; exact HOW.out)
              have hul : u = (tagL 0 (rowR lv m)).length := by rw [← hrowe, tagL_length, mgR_length, ← HN.out, HUU.out, List.length_take, Nat.min_eq_left hpP]
              have HUL := Lib.hid hul
              have hcc := HRZ.out.own.cap
              have hgl := HRZ.out.own.lt (g := g) rfl
              have hgo := HRW.out.own.lt (g := g) rfl
              have HGO := Lib.hid hgo
              clear hrowe hul hgo HOW HROW
              have hpdI : ¬ 2 * (p : Int) + 1 < (dn : Int) := by omega
              go_wp2_with (
                refine wpList_appendC rfl _ _ 47 rfl 57 _ 1 24 thsT thsI rfl (by decide) (some g) c1 m (D.map slC) rfl (HRZ.out.on (below_al' wr _)).own (some ⟨wr.heap.size, 0, none⟩) 1 1 rfl [.slice (ad0 A3) u c3] rfl (CS.lit (heap_alloc_new wr _)) (fun v hv => by simp only [List.mem_singleton] at hv; subst hv; rfl) (by unfold maxLen; omega) (by omega) ?_
                intro A6 c6 w6 k1 k2 k3)
              have hR4 := RwT.app (HRZ.out.on (below_al' wr _)) (d := ⟨ad0 A3, u, c3⟩) (OkT.on ⟨OwnT.src HOWN.out, HUL.out, by have := HOWN.out.cap; rw [← HUL.out] at this; exact this.1, HOWN.out.cap.2⟩ (below_al' wr _)) (fun x hx => by
                cases A3 with
                | none => cases hx
                | some g3 =>
                  injection hx with hx
                  obtain rfl : x = ⟨g3, 0, none⟩ := hx.symm
                  have h5 := HFR.out g3 rfl
                  have h6 := HOWN.out.lt (g := g3) rfl
                  refine ⟨fun e => ?_, ?_⟩
                  · injection e with e
                    have e' : g = g3 := e
                    have := HGO.out
                    omega
                  · show g3 < _
                    simp
                    omega) (fun x hx => by
                cases A3 with
                | none => cases hx
                | some g3 =>
                  injection hx with hx
                  obtain rfl : x = ⟨g3, 0, none⟩ := hx.symm
                  exact Nat.le_trans HRW.out.bel.size (HFR.out g3 rfl)) k1 k2 k3
              have hbl1 := (HBX.out.trans (HBZ.out.mono HBX.out.size)).alloc (HBX.out.trans (HBZ.out.mono HBX.out.size)).size (.cells #[.slice (ad0 A3) u c3] 57)
              have hlw := (HBX.out.trans (HBZ.out.mono HBX.out.size)).size
              have hbf := hbl1.grown k2 (by simp; omega) (fun y e => HNX.out y e)
              have hnf := fresh_app (w := wl) (fun y e => HNX.out y e) (by simp; omega) k3
              go_roundw
              case rel => exact ⟨m + 1, A6, c6, _, by omega, by omega, by go_num, rfl, hR4, hbf, hnf⟩
              case measure => simp [intOf]; omega
        · obtain rfl : m = L := by omega
          have HRW := Lib.hid hrw
          clear hrw
          go_wp2_with fail
          go_ret
          exact ⟨A1, c1, D, rfl, HRW.out⟩
end Go.Proofs.Ytemjlmeakkknbaa
