/- rowsOf. -/
import Derived.Test.YtemjlmeakkknbaaMg
set_option linter.unusedVariables false
set_option linter.unusedSimpArgs false
namespace Go.Proofs.Ytemjlmeakkknbaa
open Go.RowKit Go.Sort

theorem row_bd {lv : List (Int × Int)} (h : ∀ x ∈ lv, 0 ≤ x.2 ∧ x.2 ≤ 2147483647) : ∀ k, ∀ x ∈ rowR lv k, 0 ≤ x.2 ∧ x.2 ≤ 2147483647 * (2 ^ k : Nat)
  | 0 => fun x hx => by have := h x hx; rw [Nat.pow_zero]; omega
  | k + 1 => fun x hx => by
    have h1 : ∀ l : List (Int × Int), (∀ y ∈ l, 0 ≤ y.2 ∧ y.2 ≤ 2147483647 * (2 ^ k : Nat)) → ∀ y ∈ pkR l, 0 ≤ y.2 ∧ y.2 ≤ 2147483647 * (2 ^ k : Nat) + 2147483647 * (2 ^ k : Nat) := by
      intro l
      induction l using pkR.induct with
      | case1 a b r ih =>
        intro hl y hy
        rw [pkR] at hy
        rcases List.mem_cons.1 hy with rfl | hy
        · have h3 := hl a (by simp)
          have h4 := hl b (by simp)
          show 0 ≤ a.2 + b.2 ∧ a.2 + b.2 ≤ _
          omega
        · exact ih (fun z hz => hl z (by simp [hz])) y hy
      | case2 => intro _ y hy; simp [pkR] at hy
      | case3 => intro _ y hy; simp [pkR] at hy
    rw [Nat.pow_succ]
    rcases List.mem_append.1 ((mgR_perm _ _).mem_iff.1 hx) with hx | hx
    · have h2 := h x hx
      have h3 : 0 < 2 ^ k := Nat.pow_pos (by omega)
      omega
    · have h2 := h1 _ (row_bd h k) x hx
      omega
theorem row_len_le (lv : List (Int × Int)) : ∀ k, (rowR lv k).length ≤ 2 * lv.length
  | 0 => by show lv.length ≤ _; omega
  | k + 1 => by
    have := row_len_le lv k
    rw [rowR, mgR_length, pkR_length]
    omega
/-- A slice's place, length and room. -/
structure Sl where
  a : Option Addr
  n : Nat
  c : Nat
def slC (d : Sl) : Value := .slice d.a d.n d.c
/-- A slice that holds a row. -/
structure OkR (w : World) (d : Sl) (q : List (Int × Int)) : Prop where
  src : SrcI w d.a q
  len : d.n = q.length
  cap : d.n ≤ d.c
  max : d.c ≤ maxLen
theorem OkR.on {w w' : World} {d : Sl} {q : List (Int × Int)} (h : OkR w d q) (hb : Below w.heap.size w w') : OkR w' d q := ⟨h.src.on hb, h.len, h.cap, h.max⟩
theorem OkR.ch {S : Nat → Prop} {w w' : World} {d : Sl} {q : List (Int × Int)} (h : OkR w d q) (hc : Ch S w w') (hn : ∀ x, d.a = some x → ¬ S x.block) : OkR w' d q := ⟨h.src.ch hc hn, h.len, h.cap, h.max⟩
theorem itmsT : Try.prog.underlying 55 = some (.slice 44) := Try.underlying55
theorem itmsI : (Try.prog.info? 44).map (fun i => (i.zero, i.size, i.bytes)) = some (some (.slice none 0 0), 1, 24) := by kernel_rfl

/-- The first rows, in a slice of the call's own. -/
structure Rws (A0 : Option Nat) (w : World) (lv : List (Int × Int)) (A : Option Nat) (c k : Nat) (D : List Sl) (wr : World) : Prop where
  own : OwnC wr 44 1 A c k (D.map slC)
  ok : ∀ (j : Nat) (d : Sl), D[j]? = some d → OkR wr d (rowR lv j)
  new : ∀ g, A = some g → w.heap.size ≤ g
  apart : ∀ (j : Nat) (d : Sl) (x : Addr), D[j]? = some d → d.a = some x → A ≠ some x.block
  lt : ∀ (j : Nat) (d : Sl) (x : Addr), D[j]? = some d → d.a = some x → x.block < wr.heap.size
  old : ∀ (j : Nat) (d : Sl) (x : Addr), D[j]? = some d → d.a = some x → A0 = some x.block ∨ w.heap.size ≤ x.block
  bel : Below w.heap.size w wr
theorem Rws.dlen {A0 : Option Nat} {w : World} {lv : List (Int × Int)} {A : Option Nat} {c k : Nat} {D : List Sl} {wr : World} (h : Rws A0 w lv A c k D wr) : D.length = k := by
  have := h.own.len
  rw [List.length_map] at this
  omega
theorem Rws.on {A0 : Option Nat} {w : World} {lv : List (Int × Int)} {A : Option Nat} {c k : Nat} {D : List Sl} {wr w' : World} (h : Rws A0 w lv A c k D wr) (hb : Below wr.heap.size wr w') : Rws A0 w lv A c k D w' :=
  ⟨h.own.on hb, fun j d e => (h.ok j d e).on hb, h.new, h.apart, fun j d x e k => Nat.lt_of_lt_of_le (h.lt j d x e k) hb.size, h.old, h.bel.trans (hb.mono h.bel.size)⟩
theorem Rws.get {A0 : Option Nat} {w : World} {lv : List (Int × Int)} {A : Option Nat} {c k : Nat} {D : List Sl} {wr : World} (h : Rws A0 w lv A c k D wr) {j : Nat} (hj : j < k) :
    ∃ g d, A = some g ∧ wr.cell? ⟨g, j, none⟩ = some (slC d) ∧ OkR wr d (rowR lv j) ∧ ∀ x, d.a = some x → A0 = some x.block ∨ w.heap.size ≤ x.block := by
  have hl := h.dlen
  have hd : D[j]? = some (D[j]'(by omega)) := List.getElem?_eq_getElem (by omega)
  obtain ⟨g, o, e, hc⟩ := h.own.src.pos (by rw [List.length_map]; omega)
  cases A with
  | none => cases e
  | some g' =>
    injection e with e
    injection e with e1 e2 _
    subst e1 e2
    refine ⟨g', _, rfl, ?_, h.ok j _ hd, fun x hx => h.old j _ x hd hx⟩
    have := hc j (slC (D[j]'(by omega))) (by rw [List.getElem?_map, hd]; rfl)
    rw [Nat.zero_add] at this
    exact this
theorem Rws.app {A0 : Option Nat} {w : World} {lv : List (Int × Int)} {A A' : Option Nat} {c c' k : Nat} {D : List Sl} {wr w2 : World} {d : Sl} (h : Rws A0 w lv A c k D wr) (hd : OkR wr d (rowR lv k)) (hnd : ∀ x, d.a = some x → A ≠ some x.block ∧ x.block < wr.heap.size) (hno : ∀ x, d.a = some x → w.heap.size ≤ x.block)
    (h1 : OwnC w2 44 1 A' c' (k + 1) (D.map slC ++ [slC d])) (h2 : wr.grownBy w2 A) (h3 : A' = A ∨ A' = some wr.heap.size) : Rws A0 w lv A' c' (k + 1) (D ++ [d]) w2 := by
  have hl := h.dlen
  have hch : Ch (fun y => A = some y) wr w2 := Ch.of_grown h2 (fun y e => e)
  have hall : ∀ (j : Nat) (e : Sl), (D ++ [d])[j]? = some e → OkR wr e (rowR lv j) ∧ ∀ x, e.a = some x → A ≠ some x.block ∧ x.block < wr.heap.size := by
    intro j e he
    by_cases hj : j < k
    · rw [List.getElem?_append_left (by omega)] at he
      exact ⟨h.ok j e he, fun x hx => ⟨h.apart j e x he hx, h.lt j e x he hx⟩⟩
    · rw [List.getElem?_append_right (by omega), hl] at he
      by_cases hjk : j = k
      · subst hjk
        rw [Nat.sub_self] at he
        simp at he
        subst he
        exact ⟨hd, hnd⟩
      · rw [List.getElem?_eq_none (by simp; omega)] at he
        cases he
  refine ⟨by rw [List.map_append]; exact h1, fun j e he => ((hall j e he).1).ch hch (fun x hx => ((hall j e he).2 x hx).1), fun g e => ?_, fun j e x he hx => ?_, fun j e x he hx => Nat.lt_of_lt_of_le ((hall j e he).2 x hx).2 h2.size, fun j e x he hx => ?_, h.bel.grown h2 h.bel.size (fun g e => h.new g e)⟩
  · rcases h3 with h3 | h3
    · exact h.new g (h3 ▸ e)
    · rw [h3] at e
      injection e with e
      subst e
      exact h.bel.size
  · obtain ⟨k1, k2⟩ := (hall j e he).2 x hx
    rcases h3 with h3 | h3
    · rw [h3]
      exact k1
    · rw [h3]
      intro e2
      injection e2 with e2
      omega
  · by_cases hj : j < k
    · rw [List.getElem?_append_left (by omega)] at he
      exact h.old j e x he hx
    · rw [List.getElem?_append_right (by omega), hl] at he
      by_cases hjk : j = k
      · subst hjk
        rw [Nat.sub_self] at he
        simp at he
        subst he
        exact .inr (hno x hx)
      · rw [List.getElem?_eq_none (by simp; omega)] at he
        cases he

set_option maxRecDepth 100000 in
set_option maxHeartbeats 2000000 in
theorem rows_call (A0 : Option Nat) (n c0 L : Nat) (lv : List (Int × Int)) (hn : n = lv.length) (hn6 : n ≤ 258) (hL : 1 ≤ L) (hL15 : L ≤ 15) (hw : ∀ x ∈ lv, 0 ≤ x.2 ∧ x.2 ≤ 2147483647) (w : World) (ho : OwnI w A0 c0 lv) :
    Calls Try.prog 26 #[.slice (ad0 A0) n c0, .int .i64 L] w fun e w' => ∃ A c D, e = .returned (.slice (ad0 A) L c) ∧ Rws A0 w lv A c L D w' := by
  have hcap := ho.cap
  rw [← hn] at hcap
  have HN := Lib.hid hn
  have HO := Lib.hid ho
  have HW := Lib.hid hw
  have HC := Lib.hid hcap
  clear hn ho hw
  go_enter Try.func26, Try.ntmps26
  go_wp2_with fail
  go_loopw [5] (fun s5 wr => ∃ (A : Option Nat) (c k : Nat) (D : List Sl), s5 = .slice (ad0 A) k c ∧ 1 ≤ k ∧ k ≤ L ∧ Rws A0 w lv A c k D wr) (fun s5 _ => L - (match s5 with | .slice _ k _ => k | _ => 0))
  case atStart =>
    have hown : OwnC (w.alloc (.cells #[.slice (ad0 A0) n c0] 44)) 44 1 (some w.heap.size) 1 1 ([(⟨ad0 A0, n, c0⟩ : Sl)].map slC) :=
      OwnC.made (heap_alloc_new w _) (by unfold maxLen; omega) (by omega) (by simp) (by simp [slC])
    have hb : Below w.heap.size w (w.alloc (.cells #[.slice (ad0 A0) n c0] 44)) := (Below.refl _ _).alloc (Nat.le_refl _) _
    have hbk : ∀ x, ad0 A0 = some x → x.block < w.heap.size := fun x hx => by
      cases A0 with
      | none => cases hx
      | some g =>
        injection hx with hx
        subst hx
        exact HO.out.lt rfl
    refine ⟨some w.heap.size, 1, 1, [⟨ad0 A0, n, c0⟩], rfl, Nat.le_refl _, hL, hown, fun j d e => ?_, fun g e => by injection e with e; omega, fun j d x e hx => ?_, fun j d x e hx => ?_, fun j d x e hx => ?_, hb⟩
    · match j, e with
      | 0, e =>
        simp at e
        subst e
        exact OkR.on ⟨HO.out.src, HN.out, HC.out.1, HC.out.2⟩ hb
      | j + 1, e => simp at e
    · match j, e with
      | 0, e =>
        simp at e
        subst e
        have := hbk x hx
        intro e2
        injection e2 with e2
        omega
      | j + 1, e => simp at e
    · match j, e with
      | 0, e =>
        simp at e
        subst e
        have := hbk x hx
        simp
        omega
      | j + 1, e => simp at e
    · match j, e with
      | 0, e =>
        simp at e
        subst e
        cases A0 with
        | none => cases hx
        | some g =>
          injection hx with hx
          obtain rfl : x = ⟨g, 0, none⟩ := hx.symm
          exact .inl rfl
      | j + 1, e => simp at e
  case round =>
    obtain ⟨A, c, k, D, rfl, hk1, hkL, hr⟩ := hrel
    by_cases hlk : k < L
    · obtain ⟨g, d, rfl, hcell, hok, -⟩ := hr.get (j := k - 1) (by omega)
      have had : ad0 (some g) = some ⟨g, 0, none⟩ := rfl
      obtain ⟨da, dn, dc⟩ := d
      have hkI : ((k : Int) - 1) = ((k - 1 : Nat) : Int) := by omega
      have hwk : IntKind.i64.wrap ((k : Int) - 1) = (k : Int) - 1 := by rw [IntKind.wrap_i64]; omega
      have hki : ((k : Int) - 1).toNat = k - 1 := by omega
      have hk0 : (0 : Int) ≤ (k : Int) - 1 := by omega
      have hk2 : (k : Int) - 1 < (k : Int) := by omega
      have hlen := row_len_le lv (k - 1)
      have hbd := row_bd HW.out (k - 1)
      have hpw : 2 ^ (k - 1) ≤ 2 ^ 14 := Nat.pow_le_pow_right (by omega) (by omega)
      have hrow : rowR lv k = mgR lv (pkR (rowR lv (k - 1))) := by
        obtain ⟨k', rfl⟩ : ∃ k', k = k' + 1 := ⟨k - 1, by omega⟩
        rfl
      have hdn : dn = (rowR lv (k - 1)).length := hok.len
      have hsrc : SrcI wr da (rowR lv (k - 1)) := hok.src
      have hpk := packages_call da dn dc (rowR lv (k - 1)) hdn (by have := HN.out; omega) wr hsrc (fun x hx => by
        have := hbd x hx
        have h3 : ((2 ^ (k - 1) : Nat) : Int) ≤ 16384 := by omega
        omega)
      have hpl := pkR_length (rowR lv (k - 1))
      have HROW := Lib.hid hrow
      have hpn : (pkR (rowR lv (k - 1))).length ≤ 258 := by rw [hpl]; have := HN.out; omega
      generalize pkR (rowR lv (k - 1)) = P at hpk HROW hpn
      have HR := Lib.hid hr
      have hcl : wr.cell? ⟨g, k - 1, none⟩ = some (.slice da dn dc) := hcell
      obtain ⟨pn, hpn2⟩ : ∃ pn, pn = P.length := ⟨_, rfl⟩
      rw [← hpn2] at hpk hpn
      have HPN := Lib.hid hpn2
      clear hr hcell hok hrow hbd hpw hdn hsrc hpl hlen hpn2 hkI
      go_upto_region 4 with (with_reducible refine hpk.mono ?_; rintro e w2 ⟨A2, c2, rfl, hni⟩)
      have hcap2 := hni.own.cap
      rw [← HPN.out] at hcap2
      have hb2 := HR.out.bel.trans (hni.bel.mono HR.out.bel.size)
      have hmc := merged_call (ad0 A0) (ad0 A2) n pn c0 c2 lv P HN.out HPN.out hcap.1 hcap2.1 (by omega) (by omega) hcap.2 hcap2.2 w2 (HO.out.src.on hb2) hni.own.src
      rw [← HROW.out] at hmc
      have HR2 := Lib.hid (HR.out.on hni.bel)
      clear hni hb2 hcl hpk
      obtain ⟨Q, hQ⟩ : ∃ Q, Q = rowR lv k := ⟨_, rfl⟩
      rw [← hQ] at hmc
      have HQ := Lib.hid hQ
      clear hQ
      obtain ⟨qn, hqn⟩ : ∃ qn, qn = Q.length := ⟨_, rfl⟩
      rw [← hqn] at hmc
      have HQN := Lib.hid hqn
      clear hqn
      have hcc := HR2.out.own.cap
      have hgl := HR2.out.own.lt (g := g) rfl
      go_wp2_with (first
        | (with_reducible refine hmc.mono ?_
           rintro e w3 ⟨A3, c3, rfl, hn3⟩
           have HN3 := Lib.hid hn3
           have HR3 := Lib.hid ((HR2.out.on hn3.bel).on ((Below.refl _ _).alloc (Nat.le_refl _) (.cells #[.slice (ad0 A3) qn c3] 44)))
           clear hn3)
        | (refine wpList_appendC rfl _ _ 55 rfl 44 _ 1 24 itmsT itmsI rfl (by decide) (some g) c k (D.map slC) rfl HR3.out.own (some ⟨w3.heap.size, 0, none⟩) 1 1 rfl [.slice (ad0 A3) qn c3] rfl (CS.lit (heap_alloc_new w3 _)) (fun v hv => by simp only [List.mem_singleton] at hv; subst hv; rfl) (by unfold maxLen; omega) (by omega) ?_
           intro A4 c4 w4 k1 k2 k3))
      have hcap3 := HN3.out.own.cap
      rw [← HQN.out] at hcap3
      have hR4 := Rws.app HR3.out (d := ⟨ad0 A3, qn, c3⟩) (by
        rw [← HQ.out]
        exact OkR.on ⟨HN3.out.own.src, HQN.out, hcap3.1, hcap3.2⟩ ((Below.refl _ _).alloc (Nat.le_refl _) _)) (fun x hx => by
        cases A3 with
        | none => cases hx
        | some g3 =>
          injection hx with hx
          obtain rfl : x = ⟨g3, 0, none⟩ := hx.symm
          have h5 := HN3.out.new g3 rfl
          have h6 := HN3.out.own.lt (g := g3) rfl
          refine ⟨fun e => ?_, ?_⟩
          · injection e with e
            have e' : g = g3 := e
            omega
          · show g3 < _
            simp
            omega) (fun x hx => by
        cases A3 with
        | none => cases hx
        | some g3 =>
          injection hx with hx
          obtain rfl : x = ⟨g3, 0, none⟩ := hx.symm
          exact Nat.le_trans HR2.out.bel.size (HN3.out.new g3 rfl)) k1 k2 k3
      refine ⟨⟨A4, c4, k + 1, _, rfl, by omega, by omega, hR4⟩, ?_⟩
      show L - (k + 1) < L - k
      omega
    · obtain rfl : k = L := by omega
      have HR := Lib.hid hr
      clear hr
      go_wp2_with fail
      go_ret
      exact ⟨A, c, D, rfl, HR.out⟩
end Go.Proofs.Ytemjlmeakkknbaa
