/- Package bitreader: Feed. -/
import Derived.Test.YtjbbbojbjholfaaPk
import Derived.Deep.DeepCutAuto
set_option linter.unusedVariables false
set_option linter.unusedSimpArgs false
namespace Go.Proofs.Ytjbbbojbjholfaa
open Go.RowKit

/-- A chunk: a slice of bytes. -/
structure Chk where
  a : Option Addr
  len : Nat
  cap : Nat
  bs : List Int
/-- All are bytes. -/
def Byts (l : List Int) : Prop := ∀ x ∈ l, 0 ≤ x ∧ x ≤ 255
structure OkC (w : World) (d : Chk) : Prop where
  len : d.bs.length = d.len
  src : Src w .u8 d.a d.bs
  byts : Byts d.bs
  lc : d.len ≤ d.cap
  cm : d.cap ≤ maxLen
/-- Chunks in memory. -/
def CSrc (w : World) (sp : Option Addr) (C : List Chk) : Prop := C = [] ∨ ∃ g o, sp = some ⟨g, o, none⟩ ∧ ∀ j d, C[j]? = some d → w.cell? ⟨g, o + j, none⟩ = some (.slice d.a d.len d.cap)
/-- All bytes of chunks. -/
def joinC (C : List Chk) : List Int := C.flatMap (·.bs)
theorem joinC_nil : joinC [] = [] := rfl
theorem joinC_one (d : Chk) : joinC [d] = d.bs := by simp [joinC]
theorem joinC_snoc (C : List Chk) (d : Chk) : joinC (C ++ [d]) = joinC C ++ d.bs := by simp [joinC]
theorem joinC_succ (C : List Chk) (k : Nat) (d : Chk) (h : C[k]? = some d) : joinC (C.take (k + 1)) = joinC (C.take k) ++ d.bs := by
  obtain ⟨h1, rfl⟩ := List.getElem?_eq_some_iff.1 h
  rw [List.take_succ_eq_append_getElem h1, joinC_snoc]
theorem joinC_le (C : List Chk) (k : Nat) : (joinC (C.take k)).length ≤ (joinC C).length := by
  have : joinC C = joinC (C.take k) ++ joinC (C.drop k) := by
    unfold joinC
    rw [← List.flatMap_append, List.take_append_drop]
  rw [this, List.length_append]
  omega
theorem Src.ch {S : Nat → Prop} {w w' : World} {k : IntKind} {sp : Option Addr} {l : List Int} (h : Src w k sp l) (hc : Ch S w w') (hn : 0 < l.length → ∀ x, sp = some x → ¬ S x.block) : Src w' k sp l := by
  rcases h with h | ⟨g, o, hx, hcl⟩
  · exact .inl h
  · exact .inr ⟨g, o, hx, fun j hj => hc.cell (hcl j hj) (hn (by omega) ⟨g, o, none⟩ hx)⟩
theorem OkC.ch {S : Nat → Prop} {w w' : World} {d : Chk} (h : OkC w d) (hc : Ch S w w') (hn : 0 < d.bs.length → ∀ x, d.a = some x → ¬ S x.block) : OkC w' d := ⟨h.len, h.src.ch hc hn, h.byts, h.lc, h.cm⟩
theorem OkC.below {w w' : World} {d : Chk} (h : OkC w d) (hb : Below w.heap.size w w') : OkC w' d := ⟨h.len, h.src.below hb, h.byts, h.lc, h.cm⟩

/-- The reader p has now been fed f, u bits are used; nothing else of what there was has changed. -/
def NowR (w : World) (p : Nat) (a : Option Addr) (f : List Int) (u : Nat) (e : Bool) (w' : World) : Prop := ∃ a' c', Rd w' p a' c' f u e ∧ Ch (Rp p a) w w' ∧ ∀ g, blk a' = some g → blk a = some g ∨ w.heap.size ≤ g
theorem UsedR.now {w w' : World} {p : Nat} {a : Option Addr} {f : List Int} {u : Nat} {e : Bool} (h : UsedR w p a f u e w') : NowR w p a f u e w' := by
  obtain ⟨a', c', h1, h2, h3⟩ := h
  exact ⟨a', c', h1, h2, fun g hg => .inl (by rw [← h3]; exact hg)⟩

section
variable {w : World} {p : Nat} {a : Option Addr} {c : Nat} {f : List Int} {u : Nat}
/-- Behind the append of a chunk and the store. -/
theorem Rd.fed {w1 w2 : World} {a0 a1 a2 : Option Addr} {c1 c2 n : Nat} {l : List Int} (h : Rd w1 p a1 c1 f u false) (hC : Ch (Rp p a0) w w1) (hA : ∀ g, blk a1 = some g → blk a0 = some g ∨ w.heap.size ≤ g) (hlt : p < w.heap.size)
    (hw : WinS w2 .u8 5 a2 c2 (f.drop (u / 8) ++ l)) (hg : w1.grownBy w2 (blk a1)) (ha : blk a2 = blk a1 ∨ blk a2 = some w1.heap.size) (hn : n = f.length - u / 8 + l.length) (hl : ∀ x ∈ l, 0 ≤ x ∧ x ≤ 255) (hs : (f ++ l).length ≤ 1000000) :
    (∃ c', Rd (w2.setCell ⟨p, 0, none⟩ (.slice a2 n c2)) p a2 c' (f ++ l) u false) ∧ Ch (Rp p a0) w (w2.setCell ⟨p, 0, none⟩ (.slice a2 n c2)) ∧ ∀ g, blk a2 = some g → blk a0 = some g ∨ w.heap.size ≤ g := by
  have hle := h.le
  have hd : (f ++ l).drop (u / 8) = f.drop (u / 8) ++ l := List.drop_append_of_le_length (by omega)
  have hsz := hC.size
  have hne : ∀ g, blk a2 = some g → g ≠ p := by
    intro g e
    rcases ha with h1 | h1
    · exact h.ne (by rw [← h1]; exact e)
    · rw [h1] at e
      injection e with e
      omega
  refine ⟨⟨c2, ?_, ?_, ?_, ?_, hs⟩, ?_, ?_⟩
  · have h1 : w2.heap[p]? = _ := (hg.block p h.plt (fun e => h.ne e.symm rfl)).trans h.hp
    rw [set0of3 h1, hn, List.length_append, show f.length - u / 8 + l.length = f.length + l.length - u / 8 by omega]
  · rw [hd]
    exact hw.ch ((Ch.refl (fun k => k = p) _).setCell ⟨p, 0, none⟩ _ (.inl rfl)) hne
  · intro x hx
    rcases List.mem_append.1 hx with h1 | h1
    · exact h.byts x h1
    · exact hl x h1
  · rw [List.length_append]; omega
  · exact (hC.grown hg (fun g e => (hA g e).imp Or.inr id)).setCell _ _ (.inl (.inl rfl))
  · intro g e
    rcases ha with h1 | h1
    · exact hA g (by rw [← h1]; exact e)
    · rw [h1] at e
      injection e with e
      exact .inr (by omega)

theorem feed_nil (w : World) (sp : Option Addr) (n cc : Nat) :
    Calls Try.prog 11 #[.pointer none, .slice sp n cc] w fun x w' => x = .returned (.bool false) ∧ w = w' := by
  go_enter Try.func11, Try.ntmps11
  go_wp2
  go_ret
  exact ⟨rfl, rfl⟩
theorem feed_no (h : Rd w p a c f u true) (sp : Option Addr) (n cc : Nat) :
    Calls Try.prog 11 #[.pointer (some ⟨p, 0, none⟩), .slice sp n cc] w fun x w' => x = .returned (.bool false) ∧ w = w' := by
  have h2 := h.c2
  clear h
  go_enter Try.func11, Try.ntmps11
  go_wp2
  go_ret
  exact ⟨rfl, rfl⟩

set_option maxHeartbeats 2000000 in
theorem feed_yes (h : Rd w p a c f u false) (sp : Option Addr) (n cc : Nat) (C : List Chk) (hl : C.length = n) (hs : CSrc w sp C) (hok : ∀ d ∈ C, OkC w d) (h63 : n ≤ 9223372036854775807)
    (hsp : 0 < n → ∀ x, sp = some x → ¬ Rp p a x.block) (hsd : ∀ d ∈ C, 0 < d.bs.length → ∀ x, d.a = some x → ¬ Rp p a x.block) (hsm : f.length + (joinC C).length ≤ 1000000) :
    Calls Try.prog 11 #[.pointer (some ⟨p, 0, none⟩), .slice sp n cc] w fun x w' => x = .returned (.bool true) ∧ NowR w p a (f ++ joinC C) u false w' := by
  have h2 := h.c2
  have hpl := h.plt
  have H := Lib.hid h
  have HL := Lib.hid hl
  have HS := Lib.hid hs
  have HK := Lib.hid hok
  have HP := Lib.hid hsp
  have HD := Lib.hid hsd
  have HM := Lib.hid hsm
  clear h hl hs hok hsp hsd hsm
  go_enter Try.func11, Try.ntmps11
  go_wp2_with fail
  go_loopw [17] (fun i wr => ∃ k : Nat, k ≤ n ∧ i = .int .i64 k ∧ ∃ a1 c1, Rd wr p a1 c1 (f ++ joinC (C.take k)) u false ∧ Ch (Rp p a) w wr ∧ ∀ g, blk a1 = some g → blk a = some g ∨ w.heap.size ≤ g) (fun i _ => n - (intOf i).toNat)
  case atStart => exact ⟨0, Nat.zero_le _, rfl, a, c, by simpa [joinC] using H.out, Ch.refl _ _, fun g e => .inl e⟩
  case round =>
    obtain ⟨k, hk, rfl, a1, c1, hr, hC, hA⟩ := hrel
    by_cases hlt : k < n
    · obtain ⟨d, hd⟩ : ∃ d, C[k]? = some d := ⟨C[k]'(by rw [HL.out]; exact hlt), List.getElem?_eq_getElem _⟩
      rcases HS.out with rfl | ⟨g, o, rfl, hc⟩
      · simp at hd
      have hcd := hC.cell (hc k d hd) (HP.out (by omega) ⟨g, o, none⟩ rfl)
      have hdm := List.mem_of_getElem? hd
      have hokd := (HK.out d hdm).ch hC (HD.out d hdm)
      have hj := joinC_succ C k d hd
      have hjl := joinC_le C (k + 1)
      rw [hj, List.length_append] at hjl
      have HOK := Lib.hid hokd
      have HJ := Lib.hid hj
      obtain ⟨F, hF⟩ : ∃ F, F = f ++ joinC (C.take k) := ⟨_, rfl⟩
      rw [← hF] at hr
      have hFl : F.length + d.bs.length ≤ 1000000 := by rw [hF, List.length_append]; have := HM.out; omega
      have HF := Lib.hid hF
      have h0 := hr.c0
      have hfz := hr.fz 0
      have hle := hr.le
      have hpr := hr.plt
      have hne := fun g' (e : blk a1 = some g') => hr.ne e
      have HR := Lib.hid hr
      have HC := Lib.hid hC
      have HA := Lib.hid hA
      have hdl := hokd.len
      have HNE := Lib.hid hne
      obtain ⟨m, hm⟩ : ∃ m, m = F.length - u / 8 := ⟨_, rfl⟩
      rw [← hm] at h0
      have HMM := Lib.hid hm
      have hm6 : m + d.len ≤ 1000000 := by omega
      clear hc hd hdm hokd hj hjl hF hr hC hA hne hle hm
      go_wp2_with (at_builtin; go_must (
        refine wpList_appendW rfl _ _ 28 rfl 5 .u8 1 sliceT byteI a1 c1 (F.drop (u / 8)) m (by rw [List.length_drop]; exact HMM.out.symm) rfl HR.out.row d.a d.len d.cap rfl d.bs HOK.out.len HOK.out.src (by unfold maxLen; omega) (by omega) ?_
        intro a2 c2 w2 hw hg ha
        have hc2 : w2.cell? ⟨p, 0, none⟩ = some (.slice a1 m c1) := hg.cell h0 (fun e => HNE.out _ e.symm rfl)
        have hf2 : w2.frozen? ⟨p, 0, none⟩ = false := by
          have h1 := (hg.block p hpr (fun e => HNE.out _ e.symm rfl)).trans HR.out.hp
          simp [World.frozen?, h1]
        have HW := Lib.hid hw
        have HG := Lib.hid hg
        have HAA := Lib.hid ha
        clear hw hg ha))
      go_roundw
      case rel =>
        obtain ⟨⟨c', r1⟩, r2, r3⟩ := HR.out.fed HC.out HA.out hpl HW.out HG.out HAA.out (n := m + d.len) (by rw [HMM.out, hdl]) HOK.out.byts (by rw [List.length_append]; omega)
        refine ⟨k + 1, by omega, by go_num, a2, c', ?_, r2, r3⟩
        rw [HJ.out, ← List.append_assoc, ← HF.out]
        exact r1
      case measure => simp [intOf]; omega
    · obtain rfl : k = n := by omega
      rw [List.take_of_length_le (by rw [HL.out]; exact Nat.le_refl _)] at hr
      have HN := Lib.hid (show NowR w p a (f ++ joinC C) u false wr from ⟨a1, c1, hr, hC, hA⟩)
      clear hr hC hA
      go_wp2
      go_ret
      exact ⟨rfl, HN.out⟩
end
end Go.Proofs.Ytjbbbojbjholfaa
