/- A slice of slices of bytes ('parts'): in memory, and read as a list where it came in. -/
import Derived.Test.YtpodepplfhjdfaaList
import Derived.Test.YtpodepplfhjdfaaWin
import Derived.Test.YtpodepplfhjdfaaProg
set_option linter.unusedVariables false
set_option linter.unusedSimpArgs false
namespace Go.Proofs.Ytpodepplfhjdfaa
open Go.RowKit Go.ChangeShapes Go.WideShapes Go.Deep

theorem sliceT : Try.prog.underlying 24 = some (.slice 5) := Try.underlying24
theorem byteI : (Try.prog.info? 5).map (fun i => (i.zero, i.size, i.bytes)) = some (some (.int .u8 0), 1, 1) := by kernel_rfl

/-- A chunk: a slice of bytes. -/
structure Chk where
  a : Option Addr
  len : Nat
  cap : Nat
  bs : List Int
/-- All are bytes. -/
def Byts (l : List Int) : Prop := ∀ x ∈ l, 0 ≤ x ∧ x ≤ 255
theorem Byts.take {l : List Int} (h : Byts l) (n : Nat) : Byts (l.take n) := fun x hx => h x (List.mem_of_mem_take hx)
theorem Byts.drop {l : List Int} (h : Byts l) (n : Nat) : Byts (l.drop n) := fun x hx => h x (List.mem_of_mem_drop hx)
theorem Byts.getD {l : List Int} (h : Byts l) (i : Nat) : 0 ≤ l.getD i 0 ∧ l.getD i 0 ≤ 255 := by
  by_cases hi : i < l.length
  · have := h _ (List.getElem_mem hi)
    simpa [List.getD_eq_getElem?_getD, hi] using this
  · simp [List.getD_eq_getElem?_getD, show l.length ≤ i by omega]
structure OkC (w : World) (d : Chk) : Prop where
  len : d.bs.length = d.len
  src : Src w .u8 d.a d.bs
  byts : Byts d.bs
  lc : d.len ≤ d.cap
  cm : d.cap ≤ maxLen
/-- Chunks in memory. -/
def CSrc (w : World) (sp : Option Addr) (C : List Chk) : Prop := C = [] ∨ ∃ g o, sp = some ⟨g, o, none⟩ ∧ ∀ j d, C[j]? = some d → w.cell? ⟨g, o + j, none⟩ = some (.slice d.a d.len d.cap)
/-- All bytes of chunks. -/
def joinC (C : List Chk) : List Int := C.flatMap (·.bs)
theorem joinC_nil : joinC [] = [] := rfl
theorem joinC_one (d : Chk) : joinC [d] = d.bs := by simp [joinC]
theorem joinC_snoc (C : List Chk) (d : Chk) : joinC (C ++ [d]) = joinC C ++ d.bs := by simp [joinC]
theorem joinC_succ (C : List Chk) (k : Nat) (d : Chk) (h : C[k]? = some d) : joinC (C.take (k + 1)) = joinC (C.take k) ++ d.bs := by
  obtain ⟨h1, rfl⟩ := List.getElem?_eq_some_iff.1 h
  rw [List.take_succ_eq_append_getElem h1, joinC_snoc]
theorem joinC_byts {w : World} {C : List Chk} (h : ∀ d ∈ C, OkC w d) : Byts (joinC C) := fun x hx => by
  simp only [joinC, List.mem_flatMap] at hx
  obtain ⟨d, hd, hx⟩ := hx
  exact (h d hd).byts x hx
theorem Src.ch {S : Nat → Prop} {w w' : World} {k : IntKind} {sp : Option Addr} {l : List Int} (h : Src w k sp l) (hc : Ch S w w') (hn : 0 < l.length → ∀ x, sp = some x → ¬ S x.block) : Src w' k sp l := by
  rcases h with h | ⟨g, o, hx, hcl⟩
  · exact .inl h
  · exact .inr ⟨g, o, hx, fun j hj => hc.cell (hcl j hj) (hn (by omega) ⟨g, o, none⟩ hx)⟩
theorem OkC.below {w w' : World} {d : Chk} (h : OkC w d) (hb : Below w.heap.size w w') : OkC w' d := ⟨h.len, h.src.below hb, h.byts, h.lc, h.cm⟩
theorem CSrc.below {w w' : World} {sp : Option Addr} {C : List Chk} (h : CSrc w sp C) (hb : Below w.heap.size w w') : CSrc w' sp C := by
  rcases h with h | ⟨g, o, hx, hc⟩
  · exact .inl h
  · exact .inr ⟨g, o, hx, fun j d hj => (hb.cell (World.block_lt_of_cell? w _ (hc j d hj))).trans (hc j d hj)⟩
theorem CSrc.one {w : World} {g : Nat} {d : Chk} {t : TypeId} {fr : Nat × Nat} (h : w.heap[g]? = some (.cells #[.slice d.a d.len d.cap] t fr)) : CSrc w (some ⟨g, 0, none⟩) [d] :=
  .inr ⟨g, 0, rfl, fun j e hj => by
    have hj1 : j < 1 := by
      have := (List.getElem?_eq_some_iff.1 hj).1
      simpa using this
    obtain rfl : j = 0 := by omega
    simp at hj
    subst hj
    simp [World.cell?, h]⟩
theorem CSrc.list {w : World} {g : Nat} {C : List Chk} {cs : Array Value} {t : TypeId} {fr : Nat × Nat} (h : w.heap[g]? = some (.cells cs t fr)) (hc : ∀ (j : Nat) (d : Chk), C[j]? = some d → cs[j]? = some (Value.slice d.a d.len d.cap)) : CSrc w (some ⟨g, 0, none⟩) C :=
  .inr ⟨g, 0, rfl, fun j d hj => by simp only [World.cell?, h, Nat.zero_add]; exact hc j d hj⟩
theorem CSrc.two {w : World} {g : Nat} {d e : Chk} {t : TypeId} {fr : Nat × Nat} (h : w.heap[g]? = some (.cells #[.slice d.a d.len d.cap, .slice e.a e.len e.cap] t fr)) : CSrc w (some ⟨g, 0, none⟩) [d, e] :=
  CSrc.list h fun j x hj => by
    have hj2 : j < 2 := by
      have := (List.getElem?_eq_some_iff.1 hj).1
      simpa using this
    obtain rfl | rfl : j = 0 ∨ j = 1 := by omega
    all_goals
      simp at hj
      subst hj
      rfl
theorem CSrc.three {w : World} {g : Nat} {d e f : Chk} {t : TypeId} {fr : Nat × Nat} (h : w.heap[g]? = some (.cells #[.slice d.a d.len d.cap, .slice e.a e.len e.cap, .slice f.a f.len f.cap] t fr)) : CSrc w (some ⟨g, 0, none⟩) [d, e, f] :=
  CSrc.list h fun j x hj => by
    have hj3 : j < 3 := by
      have := (List.getElem?_eq_some_iff.1 hj).1
      simpa using this
    obtain rfl | rfl | rfl : j = 0 ∨ j = 1 ∨ j = 2 := by omega
    all_goals
      simp at hj
      subst hj
      rfl
theorem OkC.lit {w : World} {g : Nat} {l : List Int} {t : TypeId} {fr : Nat × Nat} (h : w.heap[g]? = some (.cells (icells .u8 l) t fr)) (hb : Byts l) (n : Nat) (hn : l.length = n) (hm : n ≤ 1000000) : OkC w ⟨some ⟨g, 0, none⟩, n, n, l⟩ :=
  ⟨hn, Src.whole h, hb, Nat.le_refl _, by show n ≤ maxLen; unfold maxLen; omega⟩
theorem OkC.nil (w : World) : OkC w ⟨none, 0, 0, []⟩ := ⟨rfl, .inl rfl, by simp [Byts], Nat.le_refl _, Nat.zero_le _⟩
/-- A part of a slice that lies in memory from its beginning on, and the rest. -/
theorem Src.drop {w : World} {k : IntKind} {g o : Nat} {l : List Int} (h : Src w k (some ⟨g, o, none⟩) l) (n : Nat) : Src w k (some ⟨g, o + n, none⟩) (l.drop n) := by
  rcases h with rfl | ⟨g', o', e, hc⟩
  · exact .inl (by simp)
  · injection e with e
    injection e with e1 e2 _
    subst e1 e2
    refine .inr ⟨g, o + n, rfl, fun j hj => ?_⟩
    rw [List.length_drop] at hj
    have := hc (n + j) (by omega)
    rw [show o + n + j = o + (n + j) by omega, this]
    simp [List.getD_eq_getElem?_getD, List.getElem?_drop]

section
variable {H : Type} {enc : TypeId × Value → H} {w : World} {base : Nat} {spare : Nat → Bool} {held : Bool}
theorem open_chunks {fuel : Nat} {cs : List Value} {x : DataW H × List MemPlace} (h : DataW.trod enc Try.prog w base spare held fuel 23 cs = some x) :
    ∃ (a : Option Addr) (len cap : Nat) (D : List Chk), cs = [.slice a len cap] ∧ len ≤ cap ∧ cap ≤ maxLen ∧ D.length = len ∧ CSrc w a D ∧ ∀ d ∈ D, OkC w d := by
  rcases open_slice Try.underlying23 h with ⟨h0, _⟩ | ⟨a, len, cap, m, n, D, Pl, h0, _, h1, h2, h3, _, h4⟩
  · exact ⟨none, 0, 0, [], h0, by omega, by unfold maxLen; omega, rfl, .inl rfl, by simp⟩
  · have hm : len ≤ m := by rw [h3]; split <;> omega
    have k3 : Try.prog.cellsOf 24 = 1 := by kernel_rfl
    obtain ⟨L, hL, hP⟩ := listChoice (P := fun i (d : Chk) => w.cell? (a.add i) = some (.slice d.a d.len d.cap) ∧ OkC w d) len (fun i hi => by
      obtain ⟨cs', hc, ht⟩ := h4 i (by omega)
      rw [k3] at hc
      obtain ⟨_, hcl, hat⟩ := World.cells?_some hc
      obtain ⟨a', l', c', bs, e5, q1, q2, q3, q4, q5⟩ := open_islice Try.underlying24 Try.underlying5 (by kernel_rfl) ht
      subst e5
      refine ⟨⟨a', l', c', bs⟩, ?_, ⟨q3, q4, Byts.of_wf q5, q1, q2⟩⟩
      have := hat 0 (by omega)
      simpa [Addr.add] using this)
    refine ⟨some a, len, cap, L, h0, h1, h2, hL, ?_, fun d hd => ?_⟩
    · by_cases hl : len = 0
      · exact .inl (List.eq_nil_of_length_eq_zero (by omega))
      · obtain ⟨d0, hd0⟩ : ∃ d, L[0]? = some d := ⟨L[0]'(by omega), List.getElem?_eq_getElem _⟩
        have hz := (hP 0 d0 hd0).1
        have e0 : a.add 0 = a := by simp [Addr.add]
        rw [e0] at hz
        have ha := addr_none hz
        refine .inr ⟨a.block, a.off, by rw [← ha], fun j d hj => ?_⟩
        have hq := (hP j d hj).1
        rw [ha, add_lit] at hq
        exact hq
    · obtain ⟨i, hi, rfl⟩ := List.getElem_of_mem hd
      exact (hP i _ (List.getElem?_eq_getElem hi)).2
end
theorem IsRow.capMax {k : IntKind} {w : World} {a : Option Addr} {len cap : Nat} {zs : List Int} (h : IsRow k w a len cap zs) : cap ≤ maxLen := by
  rcases h with ⟨_, _, rfl, _⟩ | ⟨x, _, _, h2, _⟩
  · unfold maxLen; omega
  · exact h2
end Go.Proofs.Ytpodepplfhjdfaa
