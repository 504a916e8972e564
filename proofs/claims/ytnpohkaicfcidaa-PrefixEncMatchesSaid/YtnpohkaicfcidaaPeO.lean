/- Integers that a call has made (NewO: as in XLtP, for seats without stage 10's reference). -/
import Derived.Test.YtnpohkaicfcidaaCnR
import Derived.Test.YtnpohkaicfcidaaPeM
set_option linter.unusedVariables false
set_option linter.unusedSimpArgs false
namespace Go.Proofs.Ytnpohkaicfcidaa
open Go.RowKit

theorem intsT : Try.prog.underlying 24 = some (.slice 3) := Try.underlying24
theorem intI : (Try.prog.info? 3).map (fun i => (i.zero, i.size, i.bytes)) = some (some (.int .i64 0), 1, 8) := by kernel_rfl
/-- Integers that a call has made. -/
structure NewO (w w' : World) (A : Option Nat) (c : Nat) (q : List Int) : Prop where
  own : OwnS w' .i64 3 A c q
  new : ∀ g, A = some g → w.heap.size ≤ g
  bel : Below w.heap.size w w'
theorem NewO.nil (w : World) : NewO w w none 0 [] := ⟨OwnS.nil _ _ _, (fun g e => by cases e), Below.refl _ _⟩
theorem NewO.alloc {w wr : World} {A : Option Nat} {c : Nat} {q : List Int} (h : NewO w wr A c q) (o : Obj) : NewO w (wr.alloc o) A c q := ⟨h.own.alloc _, h.new, h.bel.alloc h.bel.size _⟩
theorem NewO.on {w wr w' : World} {A : Option Nat} {c : Nat} {q : List Int} (h : NewO w wr A c q) (hb : Below wr.heap.size wr w') : NewO w w' A c q := ⟨h.own.below hb, h.new, h.bel.trans (hb.mono h.bel.size)⟩
theorem NewO.app {w wr w2 : World} {A A' : Option Nat} {c c' : Nat} {q q' : List Int} (h : NewO w wr A c q) (h1 : OwnS w2 .i64 3 A' c' q') (h2 : wr.grownBy w2 A) (h3 : A' = A ∨ A' = some wr.heap.size) : NewO w w2 A' c' q' :=
  ⟨h1, fun g e => by
    rcases h3 with h3 | h3
    · exact h.new g (h3 ▸ e)
    · rw [h3] at e
      injection e with e
      have := h.bel.size
      omega, h.bel.grown h2 h.bel.size (fun g e => h.new g e)⟩
theorem OwnS.lit {w : World} {k : IntKind} {E : TypeId} {g : Nat} {l : List Int} (h : w.heap[g]? = some (.cells (icells k l) E (0, 0))) (hm : l.length ≤ 1000000) : OwnS w k E (some g) l.length l :=
  ⟨by rw [List.length_map, Nat.mul_one], .inr ⟨g, l.length, icells k l, rfl, Nat.zero_le _, h, Nat.le_refl _, by unfold maxLen; omega, by rw [icells_size]; omega, by
    rw [Nat.mul_one]
    unfold icells
    rw [List.take_of_length_le (by simp)]⟩⟩

/-- The order so far: all symbols of lengths up to n, and those of length n + 1 among the first k. -/
def orK (l : List Int) (n k : Nat) : List Int := (ordN l n ++ (List.range k).filter fun s => decide (l.getD s 0 = ((n + 1 : Nat) : Int))).map fun s : Nat => (s : Int)
theorem orK_next (l : List Int) (n : Nat) : orK l n 258 = orK l (n + 1) 0 := by
  unfold orK
  simp [ordN, symN]
theorem orK_yes (l : List Int) (n k : Nat) (h : l.getD k 0 = ((n + 1 : Nat) : Int)) : orK l n (k + 1) = orK l n k ++ [(k : Int)] := by
  unfold orK
  rw [List.range_succ, List.filter_append, List.filter_cons_of_pos (by simpa using h), ← List.append_assoc, List.map_append]
  rfl
theorem orK_no (l : List Int) (n k : Nat) (h : ¬ l.getD k 0 = ((n + 1 : Nat) : Int)) : orK l n (k + 1) = orK l n k := by
  unfold orK
  rw [List.range_succ, List.filter_append, List.filter_cons_of_neg (by simpa using h)]
  simp
theorem ordN_len (l : List Int) : ∀ n, (ordN l n).length ≤ 258 * n
  | 0 => by simp [ordN]
  | n + 1 => by
    have := ordN_len l n
    have h2 : (symN l (n + 1)).length ≤ 258 := by
      unfold symN
      have := List.length_filter_le (fun s => decide (l.getD s 0 = ((n + 1 : Nat) : Int))) (List.range 258)
      rw [List.length_range] at this
      exact this
    show (ordN l n ++ symN l (n + 1)).length ≤ _
    rw [List.length_append]
    omega
theorem orK_len (l : List Int) (n k : Nat) : (orK l n k).length ≤ 258 * n + k := by
  have h1 := ordN_len l n
  have h2 := List.length_filter_le (fun s => decide (l.getD s 0 = ((n + 1 : Nat) : Int))) (List.range k)
  rw [List.length_range] at h2
  unfold orK
  rw [List.length_map, List.length_append]
  omega

set_option maxRecDepth 100000 in
set_option maxHeartbeats 1000000 in
theorem rvalid_call (l : List Int) (h : Lng l) (w : World) :
    Calls Try.prog 23 #[.agg (lg l)] w fun e w' => e = .returned (.bool (decide (ks l ≤ 32768))) ∧ Below w.heap.size w w' := by
  have hrs := fun W => rsum_call l h W
  have hiff : decide (rsV l ≤ 32768) = decide (ks l ≤ 32768) := by rw [decide_eq_decide]; exact rsV_iff l
  generalize rsV l = R at hrs hiff
  generalize ks l = K at hiff ⊢
  have hg := heap_alloc_last w (.cells (lg l) 23)
  have HB := Lib.hid ((Below.refl w.heap.size w).alloc (Nat.le_refl _) (.cells (lg l) 23))
  go_enter Try.func23, Try.ntmps23
  go_upto_region 1 with fail
  generalize w.alloc (.cells (lg l) 23) = w1 at hg HB ⊢
  go_wp2_with (first
    | (refine wpList_load_row rfl 23 _ rfl w.heap.size rfl 23 (lg l) (0, 0) _ hg Try.underlying23 rfl (lngIk h) ?_)
    | (with_reducible refine (hrs _).mono ?_; rintro e w2 ⟨rfl, hb2⟩))
  go_ret
  exact ⟨by rw [← hiff]; rfl, HB.out.trans (hb2.mono HB.out.size)⟩

set_option maxRecDepth 100000 in
set_option maxHeartbeats 2000000 in
theorem rorder_call (l : List Int) (h : Lng l) (hv : ks l ≤ 32768) (w : World) :
    Calls Try.prog 40 #[.agg (lg l)] w fun e w' => ∃ A c, e = .returned (.slice (ad0 A) (orK l 15 0).length c) ∧ NewO w w' A c (orK l 15 0) := by
  have hrv := fun W => rvalid_call l h W
  rw [decide_eq_true hv] at hrv
  have HRV := Lib.hid hrv
  clear hrv hv
  generalize hO : orK l 15 0 = O
  have HO : Unit → orK l 15 0 = O := fun _ => hO
  clear hO
  have hg := heap_alloc_last w (.cells (lg l) 23)
  have HB := Lib.hid ((Below.refl w.heap.size w).alloc (Nat.le_refl _) (.cells (lg l) 23))
  go_enter Try.func40, Try.ntmps40
  go_upto_region 1 with fail
  generalize w.alloc (.cells (lg l) 23) = w1 at hg HB ⊢
  have HG := Lib.hid hg
  clear hg
  go_upto_region 3 with fail
  go_loopw [3, 4] (fun o v wr => ∃ (k : Nat) (A : Option Nat) (n c : Nat), k ≤ 15 ∧ v = .int .i64 ((k : Int) + 1) ∧ o = .slice (ad0 A) n c ∧ n = (orK l k 0).length ∧ NewO w1 wr A c (orK l k 0)) (fun _ v _ => 16 - (intOf v).toNat)
  case atStart => exact ⟨0, none, 0, 0, by omega, rfl, rfl, by simp [orK, ordN], by simpa [orK, ordN] using NewO.nil w1⟩
  case round =>
    obtain ⟨k, A, n, c, hk, rfl, rfl, hn, hs⟩ := hrel
    have HS := Lib.hid hs
    have HN := Lib.hid hn
    have hn5 : n ≤ 4000 := by have := orK_len l k 0; omega
    clear hs hn
    by_cases hlt : k < 15
    · have d1 : decide ((k : Int) + 1 ≤ 15) = true := decide_eq_true (by omega)
      have hgr := heap_on HS.out.bel HG.out
      go_upto_region 6 with (first
        | (refine wpList_load_row_g 2 true rfl 8 rfl _ rfl rfl 23 _ rfl w.heap.size rfl 23 (lg l) (0, 0) _ hgr Try.underlying23 rfl (lngIk h) ?_)
        | (with_reducible refine (HRV.out _).mono ?_
           rintro e w2 ⟨rfl, hb2⟩))
      have HS2 := Lib.hid (HS.out.on hb2)
      clear hgr hb2 HS d1
      obtain ⟨kk, hkk⟩ : ∃ kk : Int, kk = (k : Int) + 1 := ⟨_, rfl⟩
      have hkb : kk = ((k + 1 : Nat) : Int) := by omega
      rw [← hkk]
      have HKK := Lib.hid hkk
      have hkb2 : 0 ≤ kk ∧ kk ≤ 15 := by omega
      have HKB := Lib.hid hkb
      clear hkk hkb
      go_loopw [3, 5] (fun o v wr => ∃ (j : Nat) (A : Option Nat) (n c : Nat), j ≤ 258 ∧ v = .int .i64 j ∧ o = .slice (ad0 A) n c ∧ n = (orK l k j).length ∧ NewO w1 wr A c (orK l k j)) (fun _ v _ => 258 - (intOf v).toNat)
      case atStart => exact ⟨0, A, n, c, by omega, rfl, rfl, HN.out, HS2.out⟩
      case round =>
        obtain ⟨j, A3, n3, c3, hj, rfl, rfl, hn3, hs3⟩ := hrel
        have HS3 := Lib.hid hs3
        have HN3 := Lib.hid hn3
        have hn8 : n3 ≤ 5000 := by have := orK_len l k j; omega
        clear hs3 hn3
        by_cases hjl : j < 258
        · have hcl := lg_cell (heap_on HS3.out.bel HG.out) h j hjl
          have hbd := h.bd j
          have hyes := orK_yes l k j
          have hno := orK_no l k j
          rw [← HKB.out] at hyes hno
          generalize l.getD j 0 = v at hcl hbd hyes hno
          by_cases hv : v = kk
          · have HY := Lib.hid (hyes hv)
            subst hv
            generalize orK l k j = Q at HS3 HN3 HY
            clear hno hyes
            go_wp2_with (
              refine wpList_appendI rfl _ _ 24 rfl 3 .i64 8 intsT intI A3 c3 Q n3 HN3.out.symm rfl (HS3.out.own.alloc _) (some ⟨wr.heap.size, 0, none⟩) 1 1 rfl [(j : Int)] rfl (Src.whole (l := [(j : Int)]) (heap_alloc_last wr _)) (by unfold maxLen; omega) (by omega) ?_
              intro A' c' w4 h1 h2 h3)
            exact ⟨⟨j + 1, A', n3 + 1, c', by omega, by go_num, rfl, by rw [HY.out, List.length_append, ← HN3.out]; rfl, by rw [HY.out]; exact (HS3.out.alloc _).app h1 h2 h3⟩, by simp [intOf]; omega⟩
          · have HY := Lib.hid (hno hv)
            have hvk : (v == kk) = false := by rw [beq_eq_false_iff_ne]; exact hv
            clear hno hyes
            go_wp2_with fail
            exact ⟨⟨j + 1, A3, n3, c3, by omega, by go_num, rfl, by rw [HY.out]; exact HN3.out, by rw [HY.out]; exact HS3.out⟩, by simp [intOf]; omega⟩
        · obtain rfl : j = 258 := by omega
          have HNX := Lib.hid (orK_next l k)
          go_wp2_with fail
          refine ⟨⟨k + 1, A3, n3, c3, by omega, ?_, rfl, by rw [← HNX.out]; exact HN3.out, by rw [← HNX.out]; exact HS3.out⟩, ?_⟩
          · rw [HKK.out]
            go_num
          · rw [HKK.out]
            simp [intOf]
            omega
    · obtain rfl : k = 15 := by omega
      rw [HO ()] at HS HN
      go_wp2_with fail
      go_ret
      exact ⟨A, c, by rw [← HN.out]; rfl, ⟨HS.out.own, fun g e => Nat.le_trans HB.out.size (HS.out.new g e), HB.out.trans (HS.out.bel.mono HB.out.size)⟩⟩
end Go.Proofs.Ytnpohkaicfcidaa
