/- Stage 11: what splitting symbols means; the contract of Put as a proposition. -/
import Derived.Test.YtnpohkaicfcidaaPeL
import Derived.Test.YtnpohkaicfcidaaPeP
set_option linter.unusedVariables false
set_option linter.unusedSimpArgs false
namespace Go.Proofs.Ytnpohkaicfcidaa
open Go.RowKit

theorem canV_split (l q : List Int) (k : Nat) : canV l q = (canV l (q.take k) && canV l (q.drop k)) := by
  unfold canV
  have e : q.all (okS l) = ((q.take k).all (okS l) && (q.drop k).all (okS l)) := by rw [← List.all_append, List.take_append_drop]
  rw [e]
  cases decide (ks l ≤ 32768) <;> simp
theorem spR_split {l q : List Int} (k : Nat) (h : canV l q = true) : spR l q = spR l (q.take k) ++ spR l (q.drop k) := by
  have h2 := h
  rw [canV_split l q k, Bool.and_eq_true] at h2
  rw [(spR_yes h).1, (spR_yes h2.1).1, (spR_yes h2.2).1, ← spV_app, List.take_append_drop]
/-- Put on a writer (the symbols stay as they are, whatever happens to the writer's blocks). -/
def PutC : Prop := ∀ (l : List Int) (_ : Lng l) (sp : Option Addr) (n cap : Nat) (q : List Int) (_ : q.length = n) (_ : n ≤ 10000) (w : World) (p : Nat) (A : Option Nat) (c : Nat) (bs : List Int) (_ : Wr w p A c bs) (_ : bs.length ≤ 200000) (_ : ∀ W : World, Ch (Fp p A) w W → Src W .i64 sp q),
    Calls Try.prog 18 #[.pointer (some ⟨p, 0, none⟩), .agg (lg l), .slice sp n cap] w fun e w' => e = .returned (.int .i64 (spE l q)) ∧ ∃ A' c', Wr w' p A' c' (bs ++ spR l q) ∧ Ch (Fp p A) w w' ∧ (∀ g, A' = some g → A = some g ∨ w.heap.size ≤ g)
theorem run_restI (a : Option Addr) (n c k : Nat) (hk : (k : Int) ≤ (n : Int)) (hc : (n : Int) ≤ (c : Int)) (ad : Option Addr) (had : ad = if c = k then a else a.map (·.add k)) (w : World) :
    (Instr.sliceAt 24 (.slice a n c) (some (.int .i64 k)) none none).run Try.prog w = .ok (.slice ad (n - k) (c - k)) w ∧
    (Instr.slice 24 (.slice a n c) (some (.int .i64 k)) none none).run Try.prog w = .ok (.slice ad (n - k) (c - k)) w := by
  subst had
  constructor <;> (go_simp; done)
theorem Src.rest {w : World} {a : Option Addr} {n c k : Nat} {q : List Int} (hq : q.length = n) (hk : k ≤ n) (hc : n ≤ c) (hs : Src w .i64 a q) : Src w .i64 (if c = k then a else a.map (·.add k)) (q.drop k) := by
  split
  · left
    exact List.drop_of_length_le (by omega)
  · rcases hs with rfl | ⟨g, o, rfl, h⟩
    · left; simp
    · have h2 := Src.drop (w := w) (k := .i64) (g := g) (o := o) (l := q) (Or.inr ⟨g, o, rfl, h⟩) k
      by_cases h0 : k = 0
      · subst h0
        simpa [Addr.add] using h2
      · simpa [Addr.add, h0] using h2
def PutNilC : Prop := ∀ (l : List Int) (_ : Lng l) (sp : Option Addr) (n cap : Nat) (w : World),
    Calls Try.prog 18 #[.pointer none, .agg (lg l), .slice sp n cap] w fun e w' => e = .returned (.int .i64 2) ∧ Below w.heap.size w w'
/-- Put, told from a world ahead of the writer. -/
theorem put_on (CP : PutC) (l : List Int) (h : Lng l) (sp : Option Addr) (n cap : Nat) (q : List Int) (hq : q.length = n) (hn : n ≤ 10000) (wb : World) (hS : Src wb .i64 sp q) (W : World) (p : Nat) (A : Option Nat) (c : Nat) (bs : List Int) (hB : Below wb.heap.size wb W) (hfp : ∀ k, Fp p A k → wb.heap.size ≤ k) (hw : Wr W p A c bs) (hbs : bs.length ≤ 200000) :
    Calls Try.prog 18 #[.pointer (some ⟨p, 0, none⟩), .agg (lg l), .slice sp n cap] W fun e w' => e = .returned (.int .i64 (spE l q)) ∧ ∃ A' c', Wr w' p A' c' (bs ++ spR l q) ∧ (∀ k, Fp p A' k → wb.heap.size ≤ k) ∧ Below wb.heap.size wb w' := by
  refine (CP l h sp n cap q hq hn W p A c bs hw hbs (fun W2 hc => hS.below (hB.trans (hc.below hB.size hfp)))).mono ?_
  rintro e w' ⟨h1, A', c', h2, h3, h4⟩
  refine ⟨h1, A', c', h2, fun k hk => ?_, hB.trans (h3.below hB.size hfp)⟩
  rcases hk with hk | hk
  · exact hfp k (Or.inl hk)
  · rcases h4 k hk with h5 | h5
    · exact hfp k (Or.inr h5)
    · exact Nat.le_trans hB.size h5
end Go.Proofs.Ytnpohkaicfcidaa
