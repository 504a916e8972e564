/- The reference of layer 2: Ints, Bytes. -/
import Derived.Test.YtckopdifjhjppaaLdP
import Derived.Test.YtckopdifjhjppaaLtR
set_option linter.unusedVariables false
set_option linter.unusedSimpArgs false
namespace Go.Proofs.Ytckopdifjhjppaa
open Go.RowKit

theorem take_snoc_getD (l : List Int) (k : Nat) (hk : k < l.length) : l.take (k + 1) = l.take k ++ [l.getD k 0] := by
  rw [List.take_succ_eq_append_getElem hk, getD_in _ _ hk]
theorem take_eq_step {l m : List Int} {k : Nat} (h : l.take k = m.take k) (hk : k < l.length) (hm : k < m.length) (e : l.getD k 0 = m.getD k 0) : l.take (k + 1) = m.take (k + 1) := by
  rw [List.take_add_one, List.take_add_one, h, List.getElem?_eq_getElem hk, List.getElem?_eq_getElem hm]
  rw [List.getD_eq_getElem?_getD, List.getD_eq_getElem?_getD, List.getElem?_eq_getElem hk, List.getElem?_eq_getElem hm] at e
  simp only [Option.getD_some] at e
  rw [e]
set_option maxRecDepth 100000 in
set_option maxHeartbeats 1000000 in
theorem ints_call (a b : Option Addr) (m n c e : Nat) (p q : List Int) (w : World) (hp : p.length = m) (hq : q.length = n) (hs : Src w .i64 a p) (ht : Src w .i64 b q) (hm : m ≤ 1000000) (hn : n ≤ 1000000) :
    Calls Try.prog 12 #[.slice a m c, .slice b n e] w fun r w' => r = .returned (.bool (decide (p = q))) ∧ Below w.heap.size w w' := by
  go_enter Try.func12, Try.ntmps12
  by_cases hmn : m = n
  · subst hmn
    go_wp2_with fail
    go_loopw [5] (fun vi wr => ∃ k : Nat, k ≤ m ∧ vi = .int .i64 k ∧ p.take k = q.take k ∧ Below w.heap.size w wr) (fun vi _ => m - (intOf vi).toNat)
    case atStart => exact ⟨0, by omega, rfl, rfl, Below.refl _ _⟩
    case round =>
      obtain ⟨k, hk, rfl, he, hb⟩ := hrel
      have HE := Lib.hid he
      have HB := Lib.hid hb
      clear he hb
      by_cases hlt : k < m
      · obtain ⟨g1, o1, rfl, h1⟩ := (hs.below HB.out).get (j := k) (by omega)
        obtain ⟨g2, o2, rfl, h2⟩ := (ht.below HB.out).get (j := k) (by omega)
        have HST := Lib.hid (take_eq_step HE.out (by omega) (by omega))
        have HNO := Lib.hid (show p = q → p.getD k 0 = q.getD k 0 from fun e => by rw [e])
        generalize p.getD k 0 = X at h1 HST HNO
        generalize q.getD k 0 = Y at h2 HST HNO
        by_cases hxy : X = Y
        · subst hxy
          go_upto_region 6 with fail
          go_quiet (fail)
          go_wp2_with fail
          exact ⟨⟨k + 1, by omega, by go_num, HST.out rfl, HB.out.drewN _⟩, by simp [intOf]; omega⟩
        · have HD := Lib.hid (show decide (p = q) = false from decide_eq_false (fun e => hxy (HNO.out e)))
          go_upto_region 6 with fail
          go_quiet (fail)
          go_wp2_with fail
          go_ret
          exact ⟨by rw [HD.out]; rfl, HB.out.drewN _⟩
      · obtain rfl : k = m := by omega
        have hpq : p = q := by
          have := HE.out
          rwa [List.take_of_length_le (by omega), List.take_of_length_le (by omega)] at this
        have HD := Lib.hid (decide_eq_true hpq)
        clear hpq
        go_wp2_with fail
        go_ret
        exact ⟨by rw [HD.out]; rfl, HB.out⟩
  · have HD := Lib.hid (show decide (p = q) = false from decide_eq_false (fun e => hmn (by rw [← hp, ← hq, e])))
    go_wp2_with fail
    go_ret
    exact ⟨by rw [HD.out]; rfl, Below.refl _ _⟩
/-- A new slice of bytes that holds l. -/
def NewB (w : World) (n : Nat) (l : List Int) (e : Ending) (w' : World) : Prop := ∃ A c, e = .returned (.slice (ad0 A) n c) ∧ OwnS w' .u8 5 A c l ∧ (∀ g, A = some g → w.heap.size ≤ g) ∧ Below w.heap.size w w'

/-- The value of the first bits of a byte. -/
def partV (bs : List Int) (j t : Nat) : Int := valV ((List.range t).map fun i => bs.getD (8 * j + i) 0)
theorem partV_succ (bs : List Int) (j t : Nat) : partV bs j (t + 1) = 2 * partV bs j t + bs.getD (8 * j + t) 0 := by
  unfold partV
  rw [List.range_succ, List.map_append, List.map_singleton, valV_snoc]
theorem partV_bd {bs : List Int} (h : Bin bs) (j t : Nat) (ht : t ≤ 8) : 0 ≤ partV bs j t ∧ partV bs j t ≤ 255 := by
  have hb : Bin ((List.range t).map fun i => bs.getD (8 * j + i) 0) := fun x hx => by
    simp only [List.mem_map] at hx
    obtain ⟨i, _, rfl⟩ := hx
    exact h.getD _
  have := valV_bd _ hb
  simp only [List.length_map, List.length_range] at this
  have h2 : (2 ^ t : Nat) ≤ 2 ^ 8 := Nat.pow_le_pow_right (by omega) ht
  unfold partV
  omega

set_option maxHeartbeats 2000000 in
theorem rbytes_call (w : World) (sp : Option Addr) (n c : Nat) (bs : List Int) (hl : bs.length = n) (hS : Src w .i64 sp bs) (hb : Bin bs) (hs : n ≤ 1000000) :
    Calls Try.prog 21 #[.slice sp n c] w (NewB w ((n + 7) / 8) (packB bs)) := by
  obtain ⟨m, hm⟩ : ∃ m, m = (n + 7) / 8 := ⟨_, rfl⟩
  rw [← hm]
  have HL := Lib.hid hl
  have HS := Lib.hid hS
  have HB := Lib.hid hb
  have hm1 : n ≤ 8 * m := by omega
  have hm2 : 8 * m ≤ n + 7 := by omega
  have HM := Lib.hid hm
  clear hl hS hb hm
  go_enter Try.func21, Try.ntmps21
  go_wp2_with fail
  go_loopw [3, 4] (fun o x wr => ∃ (j : Nat) (A1 : Option Nat) (c1 : Nat), j ≤ m ∧ x = .int .i64 ((8 * j : Nat) : Int) ∧ o = .slice (ad0 A1) j c1 ∧ OwnS wr .u8 5 A1 c1 ((packB bs).take j) ∧ (∀ g, A1 = some g → w.heap.size ≤ g) ∧ Below w.heap.size w wr) (fun _ x _ => 8 * m - (intOf x).toNat)
  case atStart => exact ⟨0, none, 0, Nat.zero_le _, rfl, rfl, OwnS.nil _ _ _, by simp, Below.refl _ _⟩
  case round =>
    obtain ⟨j, A1, c1, hj, rfl, rfl, ho, ha, hbr⟩ := hrel
    have HO := Lib.hid ho
    have HA := Lib.hid ha
    have HBR := Lib.hid hbr
    clear ho ha hbr
    by_cases hlt : j < m
    · have dlt : decide (((8 * j : Nat) : Int) < (n : Int)) = true := by simp; omega
      obtain ⟨i0, hi0⟩ : ∃ i0, i0 = 8 * j := ⟨_, rfl⟩
      rw [← hi0] at dlt ⊢
      have hi1 : i0 < n := by omega
      have HI := Lib.hid hi0
      clear hi0
      go_wp2_with fail
      go_loop [5, 6] (fun v x => ∃ t : Nat, t ≤ 8 ∧ x = .int .i64 ((i0 + t : Nat) : Int) ∧ v = .int .i64 (partV bs j t)) (fun _ x => i0 + 8 - (intOf x).toNat)
      case atStart => exact ⟨0, by omega, rfl, rfl⟩
      case round =>
        obtain ⟨t, ht, rfl, rfl⟩ := hrel
        have hpb := partV_bd HB.out j t ht
        by_cases ht8 : t < 8
        · have hsucc := partV_succ bs j t
          rw [← HI.out] at hsucc
          obtain ⟨i, hi⟩ : ∃ i, i = i0 + t := ⟨_, rfl⟩
          have dlt8 : decide (((i : Nat) : Int) < (i0 : Int) + 8) = true := by simp; omega
          have hi64 : i ≤ 1000008 := by omega
          rw [← hi] at hsucc ⊢
          obtain ⟨v, hv⟩ : ∃ v, v = partV bs j t := ⟨_, rfl⟩
          rw [← hv] at hsucc hpb ⊢
          obtain ⟨hv0, hv1⟩ := hpb
          by_cases hin : i < n
          · rcases HS.out with rfl | ⟨g, o, rfl, hc⟩
            · have := HL.out
              simp at this
              omega
            have hci := (HBR.out.cell (World.block_lt_of_cell? w _ (hc i (by rw [HL.out]; exact hin)))).trans (hc i (by rw [HL.out]; exact hin))
            have hbit := HB.out.getD i
            obtain ⟨x, hx⟩ : ∃ x, x = bs.getD i 0 := ⟨_, rfl⟩
            rw [← hx] at hci hsucc hbit
            have hx0 : 0 ≤ x := by omega
            have hx1 : x ≤ 1 := by omega
            have HSU := Lib.hid hsucc
            have HII := Lib.hid hi
            clear hc hx hbit hsucc hv hi
            go_wp2
            go_round
            case rel => exact ⟨t + 1, by omega, by have := HII.out; go_num, by rw [HSU.out]⟩
            case measure => simp [intOf]; have := HII.out; omega
          · have hx0 : bs.getD i 0 = 0 := getD_out _ _ (by rw [HL.out]; omega)
            rw [hx0, Int.add_zero] at hsucc
            have HSU := Lib.hid hsucc
            have HII := Lib.hid hi
            have hin2 : n ≤ i := by omega
            clear hx0 hsucc hv hi hin
            go_wp2
            go_round
            case rel => exact ⟨t + 1, by omega, by have := HII.out; go_num, by rw [HSU.out]⟩
            case measure => simp [intOf]; have := HII.out; omega
        · obtain rfl : t = 8 := by omega
          have dlt8 : decide (((i0 + 8 : Nat) : Int) < (i0 : Int) + 8) = false := by simp
          obtain ⟨hv0, hv1⟩ := hpb
          have hbyte : partV bs j 8 = (packB bs).getD j 0 := by
            rw [packB_getD _ _ (by rw [HL.out, ← HI.out]; exact hi1)]
            rfl
          have htk := take_snoc_getD (packB bs) j (by rw [packB_length, HL.out]; omega)
          rw [← hbyte] at htk
          have hlt1 : ((packB bs).take j).length = j := by rw [List.length_take, packB_length, HL.out]; omega
          have HT := Lib.hid htk
          have HLT := Lib.hid hlt1
          obtain ⟨v, hv⟩ : ∃ v, v = partV bs j 8 := ⟨_, rfl⟩
          rw [← hv] at hv0 hv1 HT ⊢
          clear hv hbyte htk hlt1
          go_wp2_with (at_builtin; go_must (
            refine wpList_appendI rfl _ _ 42 rfl 5 .u8 1 sliceT byteI A1 c1 ((packB bs).take j) j HLT.out rfl (HO.out.alloc _) (some ⟨wr.heap.size, 0, none⟩) 1 1 rfl [v] rfl (Src.one (Boxed.new wr 5 _).cell) (by unfold maxLen; omega) (by omega) ?_
            intro A2 c2 w3 hown hgr halt
            have HO3 := Lib.hid hown
            have HG3 := Lib.hid hgr
            have HA3 := Lib.hid halt
            clear hown hgr halt))
          go_roundw
          case rel =>
            refine ⟨j + 1, A2, c2, by omega, by have := HI.out; go_num, rfl, by rw [HT.out]; exact HO3.out, fun g e => ?_, (HBR.out.alloc HBR.out.size _).grown HG3.out (by have := HBR.out.size; simp; omega) (fun g e => HA.out g e)⟩
            have := HBR.out.size
            rcases HA3.out with h1 | h1
            · exact HA.out g (by rw [← h1]; exact e)
            · rw [h1] at e
              injection e with e
              simp at e
              omega
          case measure => simp [intOf]; have := HI.out; omega
    · obtain rfl : j = m := by omega
      have dlt : decide (((8 * j : Nat) : Int) < (n : Int)) = false := by simp; omega
      have htk : (packB bs).take j = packB bs := List.take_of_length_le (by rw [packB_length, HL.out]; omega)
      have hO := HO.out
      rw [htk] at hO
      have HO2 := Lib.hid hO
      obtain ⟨i0, hi0⟩ : ∃ i0, i0 = 8 * j := ⟨_, rfl⟩
      rw [← hi0] at dlt ⊢
      have hi1 : n ≤ i0 := by omega
      clear htk hO hi0
      go_wp2
      go_ret
      exact ⟨A1, c1, rfl, HO2.out, HA.out, HBR.out⟩

end Go.Proofs.Ytckopdifjhjppaa
