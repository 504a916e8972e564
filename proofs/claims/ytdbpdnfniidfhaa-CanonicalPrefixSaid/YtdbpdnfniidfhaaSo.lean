/- Package sort over any closure that may make memory of its own: what is asked of the two functions; insertionSort_func. -/
import Derived.Test.YtdbpdnfniidfhaaGen
import Derived.Test.YtdbpdnfniidfhaaProg
import Derived.Test.YtdbpdnfniidfhaaSoM
import Derived.RegionTactic
import Derived.Deep.DeepMust
import Derived.Deep.CutBlock
import Derived.Deep.DeepCutAuto
set_option linter.unusedVariables false
set_option linter.unusedSimpArgs false
namespace Go.Proofs.Ytdbpdnfniidfhaa
open Go.RowKit Go.Sort

/-- No old block changes. -/
def Sm (w w' : World) : Prop := Ch (fun _ => False) w w'
theorem Sm.refl (w : World) : Sm w w := Ch.refl _ w
theorem Sm.trans {a b c : World} (h : Sm a b) (k : Sm b c) : Sm a c := Ch.trans h k (fun _ _ e => e)
theorem Sm.below {w w' : World} (h : Sm w w') : Below w.heap.size w w' := Ch.below h (Nat.le_refl _) (fun _ e => e.elim)
theorem Sm.of {w w' : World} (h : Below w.heap.size w w') : Sm w w' := Ch.of_below h
/-- Only block b changes. -/
def On (b : Nat) (w w' : World) : Prop := Ch (fun k => k = b) w w'
theorem On.refl (b : Nat) (w : World) : On b w w := Ch.refl _ w
theorem On.trans {b : Nat} {w w' w'' : World} (h : On b w w') (k : On b w' w'') : On b w w'' := Ch.trans h k (fun _ _ e => e)
theorem On.sm {b : Nat} {w w' w'' : World} (h : On b w w') (k : Sm w' w'') : On b w w'' := Ch.trans h k (fun _ _ e => e.elim)
theorem Sm.on {b : Nat} {w w' : World} (h : Sm w w') : On b w w' := Ch.mono h (fun _ _ e => e.elim)

section
variable {α : Type} [Inhabited α]
/-- What is asked: I d w says that the row holds d in the world w. -/
structure Env (lt : α → α → Bool) (g : Nat) (lb : Array Value) (sf : Nat) (sb : Array Value) (blk n : Nat) (I : Array α → World → Prop) : Prop where
  eg : ∀ args w, (callFunc g args).run Try.prog w = .ok (.enter g args) w
  keep : ∀ d w w', I d w → Sm w w' → I d w'
  here : ∀ d w, I d w → blk < w.heap.size ∧ d.size = n
  less : ∀ d w (i j : Nat), I d w → i < n → j < n → Calls Try.prog g (#[.int .i64 i, .int .i64 j] ++ lb) w fun e w' => e = .returned (.bool (lt d[i]! d[j]!)) ∧ Sm w w'
  swap : ∀ d w (i j : Nat), 2 ≤ n → I d w → i < n → j < n → ∃ w', (callFunc sf (#[.int .i64 i, .int .i64 j] ++ sb)).run Try.prog w = .ok (.value (.tuple #[])) w' ∧ On blk w w' ∧ I (swp d i j) w'
  small : n < 4611686018427387904

/-- Within a function: its own box of the two functions, the row, what has changed. -/
structure St (I : Array α → World → Prop) (blk : Nat) (fg fs : Value) (w0 : World) (d : Array α) (w : World) : Prop where
  inv : I d w
  c0 : w.cell? ⟨w0.heap.size, 0, none⟩ = some fg
  c1 : w.cell? ⟨w0.heap.size, 1, none⟩ = some fs
  on : On blk w0 w
  lt : blk < w0.heap.size
variable {lt : α → α → Bool} {g : Nat} {lb : Array Value} {sf : Nat} {sb : Array Value} {blk n : Nat} {I : Array α → World → Prop}
theorem St.sm (E : Env lt g lb sf sb blk n I) {fg fs : Value} {w0 w w' : World} {d : Array α} (h : St I blk fg fs w0 d w) (k : Sm w w') : St I blk fg fs w0 d w' :=
  ⟨E.keep _ _ _ h.inv k, k.cell h.c0 (fun e => e), k.cell h.c1 (fun e => e), h.on.sm k, h.lt⟩
omit [Inhabited α] in
theorem St.sw {fg fs : Value} {w0 w w' : World} {d d' : Array α} (h : St I blk fg fs w0 d w) (k : On blk w w') (hi : I d' w') : St I blk fg fs w0 d' w' :=
  ⟨hi, Ch.cell k h.c0 (fun e => by have := h.lt; simp only at e; omega), Ch.cell k h.c1 (fun e => by have := h.lt; simp only at e; omega), h.on.trans k, h.lt⟩
theorem St.start (E : Env lt g lb sf sb blk n I) {w : World} {d : Array α} (h : I d w) (fg fs : Value) (t : TypeId) : St I blk fg fs w d (w.alloc (.cells #[fg, fs] t)) := by
  have hs : Sm w (w.alloc (.cells #[fg, fs] t)) := (Ch.refl _ w).alloc _
  exact ⟨E.keep _ _ _ h hs, by simp, by simp, hs.on, (E.here _ _ h).1⟩

set_option maxRecDepth 100000 in
set_option maxHeartbeats 2000000 in
theorem insertionSort_call (E : Env lt g lb sf sb blk n I) (a b : Nat) (d : Array α) (w : World) (hI : I d w) (hab : a ≤ b) (hb : b ≤ n) :
    Calls Try.prog 37 #[.agg #[.func (.func g) #[] lb, .func (.func sf) #[] sb], .int .i64 a, .int .i64 b] w fun e w' => e = .returned (.tuple #[]) ∧ On blk w w' ∧ I (Sort.insertionSort lt d a b) w' := by
  have hS := Lib.hid (St.start E hI (.func (.func g) #[] lb) (.func (.func sf) #[] sb) 64)
  have hn := E.small
  have eg := E.eg
  go_enter Try.func37, Try.ntmps37
  go_wp2_with fail
  go_loopw [6] (fun vi wr => ∃ (i : Nat) (dk : Array α), vi = .int .i64 i ∧ a < i ∧ i ≤ b + 1 ∧ St I blk (.func (.func g) #[] lb) (.func (.func sf) #[] sb) w dk wr ∧ insOuter lt a b i dk = insOuter lt a b (a + 1) d) (fun vi _ => b + 1 - (intOf vi).toNat)
  case atStart => exact ⟨a + 1, d, by go_num, by omega, by omega, hS.out, rfl⟩
  case round =>
    obtain ⟨i, dk, rfl, hai, hib, hst, hO⟩ := hrel
    have HO := Lib.hid hO
    have HS := Lib.hid hst
    clear hO hst hS
    by_cases hlt : i < b
    · go_wp2_with fail
      go_loopw [7] (fun vj wr2 => ∃ (j : Nat) (dj : Array α), vj = .int .i64 j ∧ a ≤ j ∧ j ≤ i ∧ St I blk (.func (.func g) #[] lb) (.func (.func sf) #[] sb) w dj wr2 ∧ insInner lt a j dj = insInner lt a i dk) (fun vj _ => (intOf vj).toNat)
      case atStart => exact ⟨i, dk, rfl, by omega, Nat.le_refl _, HS.out, rfl⟩
      case round =>
        obtain ⟨j, dj, rfl, haj, hji, hst, hIn⟩ := hrel
        have HI := Lib.hid hIn
        have HT := Lib.hid hst
        have c0 := hst.c0
        clear hIn hst HS
        have OUT := Lib.hid (fun (hs : j ≤ a ∨ lt dj[j]! dj[j - 1]! = false) => show insOuter lt a b (i + 1) dj = insOuter lt a b (a + 1) d from by
          rw [← HO.out, m_out_go _ _ _ _ _ hlt, ← HI.out, m_in_no _ _ _ _ hs])
        by_cases hja : a < j
        · have hl := E.less dj wr j (j - 1) HT.out.inv (by omega) (by omega)
          rw [show (((j - 1 : Nat) : Int)) = (j : Int) - 1 by omega] at hl
          cases hlv : lt dj[j]! dj[j - 1]! with
          | true =>
            rw [hlv] at hl
            go_upto_region 7 with (refine hl.mono ?_; rintro e w2 ⟨rfl, hsm⟩)
            have hT2 := HT.out.sm E hsm
            obtain ⟨w3, hsw, hon, hI3⟩ := E.swap dj w2 j (j - 1) (by omega) hT2.inv (by omega) (by omega)
            rw [show (((j - 1 : Nat) : Int)) = (j : Int) - 1 by omega] at hsw
            have c1 := hT2.c1
            have HT3 := Lib.hid (hT2.sw hon hI3)
            clear hT2 hon hI3 hsm hl c0
            go_wp2_with fail
            go_roundw
            case rel => exact ⟨j - 1, swp dj j (j - 1), by go_num, by omega, by omega, HT3.out, by rw [← HI.out, m_in_go lt a j dj hja hlv]⟩
            case measure => simp [intOf]; omega
          | false =>
            rw [hlv] at hl
            go_wp2_with (refine hl.mono ?_; rintro e w2 ⟨rfl, hsm⟩)
            go_roundw
            case rel => exact ⟨i + 1, dj, by go_num, by omega, by omega, HT.out.sm E hsm, OUT.out (Or.inr hlv)⟩
            case measure => simp [intOf]; omega
        · go_wp2_with fail
          go_roundw
          case rel => exact ⟨i + 1, dj, by go_num, by omega, by omega, HT.out, OUT.out (Or.inl (by omega))⟩
          case measure => simp [intOf]; omega
    · go_wp2_with fail
      go_end0
      exact ⟨rfl, HS.out.on, by unfold Sort.insertionSort; rw [← HO.out, m_out_no _ _ _ _ _ hlt]; exact HS.out.inv⟩
end
end Go.Proofs.Ytdbpdnfniidfhaa
