/- The reference's put, Bits, Of. -/
import Derived.Test.YtckopdifjhjppaaLtW
set_option linter.unusedVariables false
set_option linter.unusedSimpArgs false
namespace Go.Proofs.Ytckopdifjhjppaa
open Go.RowKit

theorem intsT : Try.prog.underlying 26 = some (.slice 3) := Try.underlying26
theorem intI : (Try.prog.info? 3).map (fun i => (i.zero, i.size, i.bytes)) = some (some (.int .i64 0), 1, 8) := by kernel_rfl
/-- Integers that a call has made. -/
structure NewO (w w' : World) (A : Option Nat) (c : Nat) (q : List Int) : Prop where
  own : OwnS w' .i64 3 A c q
  new : ∀ g, A = some g → w.heap.size ≤ g
  bel : Below w.heap.size w w'
theorem NewO.nil (w : World) : NewO w w none 0 [] := ⟨OwnS.nil _ _ _, (fun g e => by cases e), Below.refl _ _⟩
theorem NewO.alloc {w wr : World} {A : Option Nat} {c : Nat} {q : List Int} (h : NewO w wr A c q) (o : Obj) : NewO w (wr.alloc o) A c q := ⟨h.own.alloc _, h.new, h.bel.alloc h.bel.size _⟩
theorem NewO.on {w wr w' : World} {A : Option Nat} {c : Nat} {q : List Int} (h : NewO w wr A c q) (hb : Below wr.heap.size wr w') : NewO w w' A c q := ⟨h.own.below hb, h.new, h.bel.trans (hb.mono h.bel.size)⟩
theorem NewO.app {w wr w2 : World} {A A' : Option Nat} {c c' : Nat} {q q' : List Int} (h : NewO w wr A c q) (h1 : OwnS w2 .i64 3 A' c' q') (h2 : wr.grownBy w2 A) (h3 : A' = A ∨ A' = some wr.heap.size) : NewO w w2 A' c' q' :=
  ⟨h1, fun g e => by
    rcases h3 with h3 | h3
    · exact h.new g (h3 ▸ e)
    · rw [h3] at e
      injection e with e
      have := h.bel.size
      omega, h.bel.grown h2 h.bel.size (fun g e => h.new g e)⟩
theorem rep_snoc (x : List Int) (k : Nat) : (List.replicate (k + 1) x).flatten = (List.replicate k x).flatten ++ x := by
  rw [List.replicate_succ']
  simp

set_option maxRecDepth 100000 in
set_option maxHeartbeats 1000000 in
theorem put_call (p q : Int) (hp : 0 ≤ p ∧ p ≤ 15) (hq : 0 ≤ q ∧ q ≤ 15) (w : World) :
    Calls Try.prog 35 #[.int .i64 p, .int .i64 q] w fun e w' => ∃ A c, e = .returned (.slice (ad0 A) (putV p q).length c) ∧ NewO w w' A c (putV p q) := by
  have HL := Lib.hid (putV_len p q)
  have HE := Lib.hid (show putV p q = (List.replicate (q - p).toNat [(1 : Int), 0]).flatten ++ (List.replicate (p - q).toNat [(1 : Int), 1]).flatten ++ [0] from rfl)
  generalize putV p q = V at HE HL ⊢
  go_enter Try.func35, Try.ntmps35
  go_upto_region 2 with fail
  go_loopw [0, 5] (fun i s wr => ∃ (k : Nat) (A : Option Nat) (n c : Nat), k ≤ (q - p).toNat ∧ i = .int .i64 (p + k) ∧ s = .slice (ad0 A) n c ∧ n = 2 * k ∧ NewO w wr A c (List.replicate k [(1 : Int), 0]).flatten) (fun i _ _ => (q - intOf i).toNat)
  case atStart => exact ⟨0, none, 0, 0, by omega, by simp, rfl, rfl, NewO.nil w⟩
  case round =>
    obtain ⟨k, A, n, c, hk, rfl, rfl, hn, hs⟩ := hrel
    have HS := Lib.hid hs
    have HN := Lib.hid (rep_len [(1 : Int), 0] rfl k)
    have HSN := Lib.hid (rep_snoc [(1 : Int), 0] k)
    clear hs
    by_cases hlt : p + k < q
    · have hn30 : n ≤ 30 := by omega
      have HNN := Lib.hid hn
      clear hn
      generalize (List.replicate k [(1 : Int), 0]).flatten = Q at HS HN HSN
      go_wp2_with (
        refine wpList_appendI rfl _ _ 26 rfl 3 .i64 8 intsT intI A c Q n (by rw [HNN.out]; exact HN.out) rfl (HS.out.own.alloc _) (some ⟨wr.heap.size, 0, none⟩) 2 2 rfl [1, 0] rfl (Src.whole (l := [1, 0]) (heap_alloc_last wr _)) (by unfold maxLen; omega) (by omega) ?_
        intro A' c' w4 h1 h2 h3)
      exact ⟨⟨k + 1, A', n + 2, c', by omega, by go_num, rfl, by rw [HNN.out]; omega, by rw [HSN.out]; exact (HS.out.alloc _).app h1 h2 h3⟩, by simp [intOf]; omega⟩
    · have hke : k = (q - p).toNat := by omega
      have HKE := Lib.hid hke
      have HNN := Lib.hid hn
      have hn30 : n ≤ 30 := by omega
      obtain ⟨P, hP⟩ : ∃ P, P = p + (k : Int) := ⟨_, rfl⟩
      have hP2 : 0 ≤ P ∧ P ≤ 15 ∧ (P - q).toNat = (p - q).toNat := by omega
      have hPq : ¬ P < q := by omega
      rw [← hP]
      clear hn hP hlt hk HSN hke
      obtain ⟨Q1, hQ1⟩ : ∃ Q1, Q1 = (List.replicate k [(1 : Int), 0]).flatten := ⟨_, rfl⟩
      rw [← hQ1] at HS HN
      have HQ := Lib.hid hQ1
      clear hQ1
      obtain ⟨wo, hwo⟩ : ∃ wo, wo = wr := ⟨_, rfl⟩
      subst hwo
      go_upto_region 5 with fail
      go_loopw [0, 5] (fun i s wr => ∃ (m : Nat) (A : Option Nat) (n2 c : Nat), m ≤ (P - q).toNat ∧ i = .int .i64 (P - m) ∧ s = .slice (ad0 A) n2 c ∧ n2 = n + 2 * m ∧ NewO w wr A c (Q1 ++ (List.replicate m [(1 : Int), 1]).flatten)) (fun i _ _ => (intOf i - q).toNat)
      case atStart => exact ⟨0, A, n, c, by omega, by simp, rfl, by omega, by simpa using HS.out⟩
      case round =>
        obtain ⟨m, A2, n2, c2, hm, rfl, rfl, hn2, hs2⟩ := hrel
        have HS2 := Lib.hid hs2
        have HM := Lib.hid (rep_len [(1 : Int), 1] rfl m)
        have HSM := Lib.hid (rep_snoc [(1 : Int), 1] m)
        clear hs2
        by_cases hgt : q < P - m
        · have hn60 : n2 ≤ 60 := by omega
          have HNN2 := Lib.hid hn2
          clear hn2
          generalize (List.replicate m [(1 : Int), 1]).flatten = Q2 at HS2 HM HSM
          go_wp2_with (
            refine wpList_appendI rfl _ _ 26 rfl 3 .i64 8 intsT intI A2 c2 (Q1 ++ Q2) n2 (by rw [List.length_append, HN.out, HM.out, HNN2.out, HNN.out]) rfl (HS2.out.own.alloc _) (some ⟨wr.heap.size, 0, none⟩) 2 2 rfl [1, 1] rfl (Src.whole (l := [1, 1]) (heap_alloc_last wr _)) (by unfold maxLen; omega) (by omega) ?_
            intro A' c' w4 h1 h2 h3)
          exact ⟨⟨m + 1, A', n2 + 2, c', by omega, by go_num, rfl, by rw [HNN2.out]; omega, by rw [HSM.out, ← List.append_assoc]; exact (HS2.out.alloc _).app h1 h2 h3⟩, by simp [intOf]; omega⟩
        · have hme : m = (p - q).toNat := by omega
          have HME := Lib.hid hme
          have HNN2 := Lib.hid hn2
          have hn60 : n2 ≤ 60 := by omega
          clear hn2 hme hm
          have HE2 := Lib.hid (show V = Q1 ++ (List.replicate m [(1 : Int), 1]).flatten ++ [0] by rw [HE.out, HME.out, ← HKE.out, HQ.out])
          generalize (List.replicate m [(1 : Int), 1]).flatten = Q2 at HS2 HM HSM HE2
          go_wp2_with (
            refine wpList_appendI rfl _ _ 26 rfl 3 .i64 8 intsT intI A2 c2 (Q1 ++ Q2) n2 (by rw [List.length_append, HN.out, HM.out, HNN2.out, HNN.out]) rfl (HS2.out.own.alloc _) (some ⟨wr.heap.size, 0, none⟩) 1 1 rfl [0] rfl (Src.one (by simp)) (by unfold maxLen; omega) (by omega) ?_
            intro A' c' w4 h1 h2 h3)
          go_ret
          have hN := (HS2.out.alloc _).app h1 h2 h3
          have e : V.length = n2 + 1 := by
            rw [HE2.out, List.length_append, List.length_append, HN.out, HM.out, HNN2.out, HNN.out]
            rfl
          exact ⟨A', c', by rw [e]; rfl, by rw [HE2.out]; exact hN⟩
end Go.Proofs.Ytckopdifjhjppaa
