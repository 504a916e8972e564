/- winepresslaw11.wakes: what it calls. -/
import Derived.Test.YtnpohkaicfcidaaPfF
import Derived.Test.YtnpohkaicfcidaaPfJ
set_option linter.unusedVariables false
set_option linter.unusedSimpArgs false
namespace Go.Proofs.Ytnpohkaicfcidaa
open Go.RowKit

def kA : List Int := (((zL.set 0 3).set 1 3).set 2 2).set 3 1
theorem kA_lng : Lng kA := (((zL_lng.set 0 3 (by decide)).set 1 3 (by decide)).set 2 2 (by decide)).set 3 1 (by decide)
theorem kA_can : canV kA [2, 3, 0] = true ∧ canV kA [4] = false ∧ canV kA [2, 3] = true ∧ canV kA [9] = false := by decide +kernel
theorem kA_sp : spV kA [2, 3, 0] = [1, 0, 0, 1, 1, 0] ∧ spV kA [2, 3] = [1, 0, 0] := by decide +kernel
theorem kA_pk : packB [1, 0, 0, 1, 1, 0] = [152] ∧ packB [1, 1, 0, 0] = [192] := by decide +kernel
theorem kA_rd : rdR kA [152] 6 = some [2, 3, 0] ∧ rdR kA [152] 9 = none ∧ rdR kA [192] 2 = none := by decide +kernel
/-- All that wakes calls, with its lengths named. -/
theorem wk_all : ∃ L : List Int, Lng L ∧ (((((lg zL).setIfInBounds 0 (.int .u8 3)).setIfInBounds 1 (.int .u8 3)).setIfInBounds 2 (.int .u8 2)).setIfInBounds 3 (.int .u8 1)) = lg L ∧
    (∀ w, Calls Try.prog 8 #[.agg (lg L), .slice (some ⟨w.heap.size, 0, none⟩) 3 3] (w.alloc (.cells #[.int .i64 2, .int .i64 3, .int .i64 0] 3)) fun e w' => ∃ a c, e = .returned (.tuple #[.slice a 1 c, .int .i64 6, .int .i64 0]) ∧ Src w' .u8 a [152] ∧ Below w.heap.size w w') ∧
    (∀ w, Calls Try.prog 12 #[.agg (lg L), .slice (some ⟨w.heap.size, 0, none⟩) 1 1, .int .i64 6] (w.alloc (.cells #[.int .u8 152] 5)) fun e w' => ∃ A c, e = .returned (.tuple #[.slice (ad0 A) 3 c, .int .i64 0]) ∧ Src w' .i64 (ad0 A) [2, 3, 0] ∧ Below w.heap.size w w') ∧
    (∀ w, Calls Try.prog 12 #[.agg (lg L), .slice (some ⟨w.heap.size, 0, none⟩) 1 1, .int .i64 9] (w.alloc (.cells #[.int .u8 152] 5)) fun e w' => ∃ A c, e = .returned (.tuple #[.slice (ad0 A) 0 c, .int .i64 2]) ∧ Below w.heap.size w w') ∧
    (∀ w, Calls Try.prog 12 #[.agg (lg L), .slice (some ⟨w.heap.size, 0, none⟩) 1 1, .int .i64 2] (w.alloc (.cells #[.int .u8 192] 5)) fun e w' => ∃ A c, e = .returned (.tuple #[.slice (ad0 A) 0 c, .int .i64 2]) ∧ Below w.heap.size w w') ∧
    (∀ w, Calls Try.prog 10 #[.agg (lg L), .slice (some ⟨w.heap.size, 0, none⟩) 1 1] (w.alloc (.cells #[.int .i64 4] 3)) fun e w' => e = .returned (.tuple #[.int .i64 0, .int .i64 2]) ∧ Below w.heap.size w w') ∧
    (∀ w, Calls Try.prog 10 #[.agg (lg L), .slice (some ⟨w.heap.size, 0, none⟩) 3 3] (w.alloc (.cells #[.int .i64 2, .int .i64 3, .int .i64 0] 3)) fun e w' => e = .returned (.tuple #[.int .i64 6, .int .i64 0]) ∧ Below w.heap.size w w') ∧
    (∀ (B : Nat) (w : World) (p : Nat) (A : Option Nat) (c : Nat), WrB B w p A c [1] → Calls Try.prog 18 #[.pointer (some ⟨p, 0, none⟩), .agg (lg L), .slice (some ⟨w.heap.size, 0, none⟩) 2 2] (w.alloc (.cells #[.int .i64 2, .int .i64 3] 3)) fun e w' => e = .returned (.int .i64 0) ∧ ∃ A' c', WrB B w' p A' c' [1, 1, 0, 0] ∧ Below B w w') ∧
    (∀ (B : Nat) (w : World) (p : Nat) (A : Option Nat) (c : Nat), WrB B w p A c [1, 1, 0, 0] → Calls Try.prog 18 #[.pointer (some ⟨p, 0, none⟩), .agg (lg L), .slice (some ⟨w.heap.size, 0, none⟩) 1 1] (w.alloc (.cells #[.int .i64 9] 3)) fun e w' => e = .returned (.int .i64 2) ∧ ∃ A' c', WrB B w' p A' c' [1, 1, 0, 0] ∧ Below B w w') ∧
    (∀ (sp : Option Addr) (n cap : Nat) (w : World), Calls Try.prog 18 #[.pointer none, .agg (lg L), .slice sp n cap] w fun e w' => e = .returned (.int .i64 2) ∧ Below w.heap.size w w') := by
  have h := kA_lng
  have al := fun (w : World) (o : Obj) => (Below.refl w.heap.size w).alloc (Nat.le_refl _) o
  have putw : ∀ (q bs T : List Int) (E : Int) (n : Nat) (_ : q.length = n) (_ : n ≤ 1000) (_ : bs.length ≤ 1000) (_ : spE kA q = E) (_ : bs ++ spR kA q = T) (B : Nat) (w : World) (p : Nat) (A : Option Nat) (c : Nat), WrB B w p A c bs → Calls Try.prog 18 #[.pointer (some ⟨p, 0, none⟩), .agg (lg kA), .slice (some ⟨w.heap.size, 0, none⟩) n n] (w.alloc (.cells (icells .i64 q) 3)) fun e w' => e = .returned (.int .i64 E) ∧ ∃ A' c', WrB B w' p A' c' T ∧ Below B w w' := by
    intro q bs T E n hq hn hb hE hT B w p A c hw
    have hw2 := hw.alloc (.cells (icells .i64 q) 3)
    have hg := heap_alloc_last w (.cells (icells .i64 q) 3)
    have hlt : ∀ k, Fp p A k → k < w.heap.size := fun k hk => hw.wr.fpLt hk
    have hne : ¬ Fp p A w.heap.size := fun hk => by have := hlt _ hk; omega
    refine (put_call kA h (some ⟨w.heap.size, 0, none⟩) n n q hq (by omega) (w.alloc (.cells (icells .i64 q) 3)) p A c bs hw2.wr (by omega) (fun W hc => Src.whole (hc.heap hg hne))).mono ?_
    rintro e w' ⟨rfl, A', c', h1, h2, h3⟩
    rw [hE]
    rw [hT] at h1
    refine ⟨rfl, A', c', ⟨h1, fun k hk => ?_, Nat.le_trans hw2.sz h2.size⟩, ((al w _).mono hw.sz).trans (h2.below hw2.sz hw.fp)⟩
    rcases hk with rfl | hk
    · exact hw.fp _ (.inl rfl)
    · rcases h3 k hk with h4 | h4
      · exact hw.fp k (.inr h4)
      · exact Nat.le_trans hw2.sz h4
  refine ⟨kA, h, by rw [lg_set, lg_set, lg_set, lg_set]; rfl, fun w => ?_, fun w => ?_, fun w => ?_, fun w => ?_, fun w => ?_, fun w => ?_, fun B w p A c hw => ?_, fun B w p A c hw => ?_, fun sp n cap w => pput_nil kA h sp n cap w⟩
  · refine (spell_call kA h (some ⟨w.heap.size, 0, none⟩) 3 3 [2, 3, 0] rfl (by decide) _ (Src.whole (l := [2, 3, 0]) (heap_alloc_last w _))).mono ?_
    rintro e w' ⟨v, rfl, ⟨a, c, rfl, hs⟩, hb⟩
    rw [(spR_yes kA_can.1).1, (spR_yes kA_can.1).2, kA_sp.1] at *
    rw [kA_pk.1] at hs
    exact ⟨a, c, rfl, hs, (al w _).trans (hb.mono (al w _).size)⟩
  · refine (read_call kA h (some ⟨w.heap.size, 0, none⟩) 1 1 [152] rfl (by intro x hx; simp at hx; omega) (by decide) 6 (by decide) _ (Src.whole (l := [152]) (heap_alloc_last w _))).mono ?_
    rintro e w' ⟨A, c, rfl, hs⟩
    rw [kA_rd.1] at *
    exact ⟨A, c, rfl, hs.own.src, (al w _).trans (hs.bel.mono (al w _).size)⟩
  · refine (read_call kA h (some ⟨w.heap.size, 0, none⟩) 1 1 [152] rfl (by intro x hx; simp at hx; omega) (by decide) 9 (by decide) _ (Src.whole (l := [152]) (heap_alloc_last w _))).mono ?_
    rintro e w' ⟨A, c, rfl, hs⟩
    rw [kA_rd.2.1] at *
    exact ⟨A, c, rfl, (al w _).trans (hs.bel.mono (al w _).size)⟩
  · refine (read_call kA h (some ⟨w.heap.size, 0, none⟩) 1 1 [192] rfl (by intro x hx; simp at hx; omega) (by decide) 2 (by decide) _ (Src.whole (l := [192]) (heap_alloc_last w _))).mono ?_
    rintro e w' ⟨A, c, rfl, hs⟩
    rw [kA_rd.2.2] at *
    exact ⟨A, c, rfl, (al w _).trans (hs.bel.mono (al w _).size)⟩
  · refine (size_call kA h (some ⟨w.heap.size, 0, none⟩) 1 1 [4] rfl (by decide) _ (Src.whole (l := [4]) (heap_alloc_last w _))).mono ?_
    rintro e w' ⟨rfl, hb⟩
    rw [(spR_no kA_can.2.1).1, (spR_no kA_can.2.1).2]
    exact ⟨rfl, (al w _).trans (hb.mono (al w _).size)⟩
  · refine (size_call kA h (some ⟨w.heap.size, 0, none⟩) 3 3 [2, 3, 0] rfl (by decide) _ (Src.whole (l := [2, 3, 0]) (heap_alloc_last w _))).mono ?_
    rintro e w' ⟨rfl, hb⟩
    rw [(spR_yes kA_can.1).1, (spR_yes kA_can.1).2, kA_sp.1]
    exact ⟨rfl, (al w _).trans (hb.mono (al w _).size)⟩
  · exact putw [2, 3] [1] [1, 1, 0, 0] 0 2 rfl (by decide) (by decide) (spR_yes kA_can.2.2.1).2 (by rw [(spR_yes kA_can.2.2.1).1, kA_sp.2]; rfl) B w p A c hw
  · exact putw [9] [1, 1, 0, 0] [1, 1, 0, 0] 2 1 rfl (by decide) (by decide) (spR_no kA_can.2.2.2).2 (by rw [(spR_no kA_can.2.2.2).1]; rfl) B w p A c hw
end Go.Proofs.Ytnpohkaicfcidaa
