/- The reference of layer 2, second part: Pad, Bytes, Of, Get. -/
import Derived.Test.YthofbdlnbfpfeaaRef02
set_option linter.unusedVariables false
set_option linter.unusedSimpArgs false
namespace Go.Proofs.Ythofbdlnbfpfeaa
open Go.RowKit

theorem replicate_snoc (n : Nat) : List.replicate n (0 : Int) ++ [0] = List.replicate (n + 1) 0 := (List.replicate_succ').symm

set_option maxHeartbeats 1000000 in
theorem rpad_call {w : World} {r : Nat} {A : Option Nat} {c : Nat} {bs : List Int} (h : Rr w r A c bs) (hs : bs.length + 8 ≤ 1000000) :
    Calls Try.prog 10 #[.pointer (some ⟨r, 0, none⟩)] w fun e w' => e = .returned (.int .i64 (lackN bs.length)) ∧ DidR w r A (bs ++ List.replicate (lackN bs.length) 0) w' := by
  obtain ⟨m, hm⟩ : ∃ m, m = lackN bs.length := ⟨_, rfl⟩
  have hm7 : m ≤ 7 := hm ▸ lackN_le _
  have hmz : (bs.length + m) % 8 = 0 := by rw [hm]; unfold lackN; omega
  have hmn : ∀ k, k < m → (bs.length + k) % 8 ≠ 0 := fun k hk => by rw [hm] at hk; unfold lackN at hk; omega
  rw [← hm]
  have HH := Lib.hid h
  have hlt0 : ∀ k, Fp r A k → k < w.heap.size := fun k hk => h.fpLt hk
  have HLT := Lib.hid hlt0
  have HMZ := Lib.hid hmz
  have HMN := Lib.hid hmn
  clear h hlt0 hm hmz hmn
  go_enter Try.func10, Try.ntmps10
  go_wp2_with fail
  go_loopw [3] (fun x wr => ∃ (k : Nat) (A1 : Option Nat) (c1 : Nat), k ≤ m ∧ x = .int .i64 k ∧ Rr wr r A1 c1 (bs ++ List.replicate k 0) ∧ Ch (Fp r A) w wr ∧ (∀ g, A1 = some g → A = some g ∨ w.heap.size ≤ g)) (fun x _ => m - (intOf x).toNat)
  case atStart => exact ⟨0, A, c, Nat.zero_le _, rfl, by simpa using HH.out, Ch.refl _ _, fun g e => .inl e⟩
  case round =>
    obtain ⟨k, A1, c1, hk, rfl, hr, hC, hA⟩ := hrel
    have hln : (bs ++ List.replicate k (0 : Int)).length = bs.length + k := by simp
    have hc0 := hr.c0
    have hfz := hr.f 0
    rw [hln] at hc0
    have HR := Lib.hid hr
    have HC := Lib.hid hC
    have HA := Lib.hid hA
    have HLN := Lib.hid hln
    clear hr hC hA hln
    obtain ⟨N, hN⟩ : ∃ N, N = bs.length + k := ⟨_, rfl⟩
    rw [← hN] at hc0
    have hN6 : N + 1 ≤ 1000000 := by omega
    have HN := Lib.hid hN
    clear hN
    by_cases hlt : k < m
    · have d0 : ((N : Int) % 8 != 0) = true := by
        have := HMN.out k hlt
        rw [← HN.out] at this
        rw [bne_iff_ne]
        omega
      go_wp2_with (at_builtin; go_must (
        refine wpList_appendI rfl _ _ 28 rfl 3 .i64 8 Try.underlying28 intI A1 c1 (bs ++ List.replicate k 0) N (by rw [HLN.out, HN.out]) rfl (HR.out.row.alloc _) (some ⟨wr.heap.size, 0, none⟩) 1 1 rfl [0] rfl (Src.one (Boxed.new wr 3 _).cell) (by unfold maxLen; omega) (by omega) ?_
        intro A2 c2 w3 hown hgr halt
        have hcr : w3.cell? ⟨r, 0, none⟩ = some (.slice (ad0 A1) N c1) := hgr.cell ((World.cell?_alloc_lt _ _ _ HR.out.lt).trans hc0) (fun e => HR.out.ne e.symm rfl)
        have hfr : w3.frozen? ⟨r, 0, none⟩ = false := by
          have := hgr.block r (by simp; have := HR.out.lt; omega) (fun e => HR.out.ne e.symm rfl)
          rw [World.frozen?_of_block (a := ⟨r, 0, none⟩) this]
          exact (HR.out.alloc _).f 0
        have HO3 := Lib.hid hown
        have HG3 := Lib.hid hgr
        have HA3 := Lib.hid halt
        clear hown hgr halt))
      go_roundw
      case rel =>
        have hap := (HR.out.alloc (.cells #[.int .i64 0] 3)).appended (n := N + 1) (w := wr) ((Ch.refl _ _).alloc _) (fun k hk => HR.out.fpLt hk) HO3.out HG3.out HA3.out (by rw [HLN.out, HN.out]; rfl) (by omega)
        obtain ⟨h1, h2, h3⟩ := hap
        rw [List.append_assoc, replicate_snoc] at h1
        refine ⟨k + 1, A2, c2, by omega, by go_num, h1, HC.out.trans h2 (fun i hi e => ?_), fun g e => ?_⟩
        · rcases e with e | e
          · exact .inl e
          · rcases HA.out i e with h4 | h4
            · exact .inr h4
            · omega
        · rcases h3 g e with h4 | h4
          · exact HA.out g h4
          · have := HC.out.size
            exact .inr (by omega)
      case measure => simp [intOf]; omega
    · obtain rfl : k = m := by omega
      have d0 : ((N : Int) % 8 != 0) = false := by
        have := HMZ.out
        rw [← HN.out] at this
        rw [bne_eq_false_iff_eq]
        omega
      go_wp2
      go_ret
      exact ⟨rfl, A1, c1, HR.out, HC.out, HA.out⟩

/-- A new slice of bytes that holds l. -/
def NewB (w : World) (n : Nat) (l : List Int) (e : Ending) (w' : World) : Prop := ∃ A c, e = .returned (.slice (ad0 A) n c) ∧ OwnS w' .u8 5 A c l ∧ (∀ g, A = some g → w.heap.size ≤ g) ∧ Below w.heap.size w w'

/-- The value of the first bits of a byte. -/
def partV (bs : List Int) (j t : Nat) : Int := valV ((List.range t).map fun i => bs.getD (8 * j + i) 0)
theorem partV_succ (bs : List Int) (j t : Nat) : partV bs j (t + 1) = 2 * partV bs j t + bs.getD (8 * j + t) 0 := by
  unfold partV
  rw [List.range_succ, List.map_append, List.map_singleton, valV_snoc]
theorem partV_bd {bs : List Int} (h : Bin bs) (j t : Nat) (ht : t ≤ 8) : 0 ≤ partV bs j t ∧ partV bs j t ≤ 255 := by
  have hb : Bin ((List.range t).map fun i => bs.getD (8 * j + i) 0) := fun x hx => by
    simp only [List.mem_map] at hx
    obtain ⟨i, _, rfl⟩ := hx
    exact h.getD _
  have := valV_bd _ hb
  simp only [List.length_map, List.length_range] at this
  have h2 : (2 ^ t : Nat) ≤ 2 ^ 8 := Nat.pow_le_pow_right (by omega) ht
  unfold partV
  omega

set_option maxHeartbeats 2000000 in
theorem rbytes_call (w : World) (sp : Option Addr) (n c : Nat) (bs : List Int) (hl : bs.length = n) (hS : Src w .i64 sp bs) (hb : Bin bs) (hs : n ≤ 1000000) :
    Calls Try.prog 14 #[.slice sp n c] w (NewB w ((n + 7) / 8) (packB bs)) := by
  obtain ⟨m, hm⟩ : ∃ m, m = (n + 7) / 8 := ⟨_, rfl⟩
  rw [← hm]
  have HL := Lib.hid hl
  have HS := Lib.hid hS
  have HB := Lib.hid hb
  have hm1 : n ≤ 8 * m := by omega
  have hm2 : 8 * m ≤ n + 7 := by omega
  have HM := Lib.hid hm
  clear hl hS hb hm
  go_enter Try.func14, Try.ntmps14
  go_wp2_with fail
  go_loopw [3, 4] (fun o x wr => ∃ (j : Nat) (A1 : Option Nat) (c1 : Nat), j ≤ m ∧ x = .int .i64 ((8 * j : Nat) : Int) ∧ o = .slice (ad0 A1) j c1 ∧ OwnS wr .u8 5 A1 c1 ((packB bs).take j) ∧ (∀ g, A1 = some g → w.heap.size ≤ g) ∧ Below w.heap.size w wr) (fun _ x _ => 8 * m - (intOf x).toNat)
  case atStart => exact ⟨0, none, 0, Nat.zero_le _, rfl, rfl, OwnS.nil _ _ _, by simp, Below.refl _ _⟩
  case round =>
    obtain ⟨j, A1, c1, hj, rfl, rfl, ho, ha, hbr⟩ := hrel
    have HO := Lib.hid ho
    have HA := Lib.hid ha
    have HBR := Lib.hid hbr
    clear ho ha hbr
    by_cases hlt : j < m
    · have dlt : decide (((8 * j : Nat) : Int) < (n : Int)) = true := by simp; omega
      obtain ⟨i0, hi0⟩ : ∃ i0, i0 = 8 * j := ⟨_, rfl⟩
      rw [← hi0] at dlt ⊢
      have hi1 : i0 < n := by omega
      have HI := Lib.hid hi0
      clear hi0
      go_wp2_with fail
      go_loop [5, 6] (fun v x => ∃ t : Nat, t ≤ 8 ∧ x = .int .i64 ((i0 + t : Nat) : Int) ∧ v = .int .i64 (partV bs j t)) (fun _ x => i0 + 8 - (intOf x).toNat)
      case atStart => exact ⟨0, by omega, rfl, rfl⟩
      case round =>
        obtain ⟨t, ht, rfl, rfl⟩ := hrel
        have hpb := partV_bd HB.out j t ht
        by_cases ht8 : t < 8
        · have hsucc := partV_succ bs j t
          rw [← HI.out] at hsucc
          obtain ⟨i, hi⟩ : ∃ i, i = i0 + t := ⟨_, rfl⟩
          have dlt8 : decide (((i : Nat) : Int) < (i0 : Int) + 8) = true := by simp; omega
          have hi64 : i ≤ 1000008 := by omega
          rw [← hi] at hsucc ⊢
          obtain ⟨v, hv⟩ : ∃ v, v = partV bs j t := ⟨_, rfl⟩
          rw [← hv] at hsucc hpb ⊢
          obtain ⟨hv0, hv1⟩ := hpb
          by_cases hin : i < n
          · rcases HS.out with rfl | ⟨g, o, rfl, hc⟩
            · have := HL.out
              simp at this
              omega
            have hci := (HBR.out.cell (World.block_lt_of_cell? w _ (hc i (by rw [HL.out]; exact hin)))).trans (hc i (by rw [HL.out]; exact hin))
            have hbit := HB.out.getD i
            obtain ⟨x, hx⟩ : ∃ x, x = bs.getD i 0 := ⟨_, rfl⟩
            rw [← hx] at hci hsucc hbit
            have hx0 : 0 ≤ x := by omega
            have hx1 : x ≤ 1 := by omega
            have HSU := Lib.hid hsucc
            have HII := Lib.hid hi
            clear hc hx hbit hsucc hv hi
            go_wp2
            go_round
            case rel => exact ⟨t + 1, by omega, by have := HII.out; go_num, by rw [HSU.out]⟩
            case measure => simp [intOf]; have := HII.out; omega
          · have hx0 : bs.getD i 0 = 0 := getD_out _ _ (by rw [HL.out]; omega)
            rw [hx0, Int.add_zero] at hsucc
            have HSU := Lib.hid hsucc
            have HII := Lib.hid hi
            have hin2 : n ≤ i := by omega
            clear hx0 hsucc hv hi hin
            go_wp2
            go_round
            case rel => exact ⟨t + 1, by omega, by have := HII.out; go_num, by rw [HSU.out]⟩
            case measure => simp [intOf]; have := HII.out; omega
        · obtain rfl : t = 8 := by omega
          have dlt8 : decide (((i0 + 8 : Nat) : Int) < (i0 : Int) + 8) = false := by simp
          obtain ⟨hv0, hv1⟩ := hpb
          have hbyte : partV bs j 8 = (packB bs).getD j 0 := by
            rw [packB_getD _ _ (by rw [HL.out, ← HI.out]; exact hi1)]
            rfl
          have htk := take_snoc_getD (packB bs) j (by rw [packB_length, HL.out]; omega)
          rw [← hbyte] at htk
          have hlt1 : ((packB bs).take j).length = j := by rw [List.length_take, packB_length, HL.out]; omega
          have HT := Lib.hid htk
          have HLT := Lib.hid hlt1
          obtain ⟨v, hv⟩ : ∃ v, v = partV bs j 8 := ⟨_, rfl⟩
          rw [← hv] at hv0 hv1 HT ⊢
          clear hv hbyte htk hlt1
          go_wp2_with (at_builtin; go_must (
            refine wpList_appendI rfl _ _ 23 rfl 5 .u8 1 sliceT byteI A1 c1 ((packB bs).take j) j HLT.out rfl (HO.out.alloc _) (some ⟨wr.heap.size, 0, none⟩) 1 1 rfl [v] rfl (Src.one (Boxed.new wr 5 _).cell) (by unfold maxLen; omega) (by omega) ?_
            intro A2 c2 w3 hown hgr halt
            have HO3 := Lib.hid hown
            have HG3 := Lib.hid hgr
            have HA3 := Lib.hid halt
            clear hown hgr halt))
          go_roundw
          case rel =>
            refine ⟨j + 1, A2, c2, by omega, by have := HI.out; go_num, rfl, by rw [HT.out]; exact HO3.out, fun g e => ?_, (HBR.out.alloc HBR.out.size _).grown HG3.out (by have := HBR.out.size; simp; omega) (fun g e => HA.out g e)⟩
            have := HBR.out.size
            rcases HA3.out with h1 | h1
            · exact HA.out g (by rw [← h1]; exact e)
            · rw [h1] at e
              injection e with e
              simp at e
              omega
          case measure => simp [intOf]; have := HI.out; omega
    · obtain rfl : j = m := by omega
      have dlt : decide (((8 * j : Nat) : Int) < (n : Int)) = false := by simp; omega
      have htk : (packB bs).take j = packB bs := List.take_of_length_le (by rw [packB_length, HL.out]; omega)
      have hO := HO.out
      rw [htk] at hO
      have HO2 := Lib.hid hO
      obtain ⟨i0, hi0⟩ : ∃ i0, i0 = 8 * j := ⟨_, rfl⟩
      rw [← hi0] at dlt ⊢
      have hi1 : n ≤ i0 := by omega
      clear htk hO hi0
      go_wp2
      go_ret
      exact ⟨A1, c1, rfl, HO2.out, HA.out, HBR.out⟩

theorem bitsB_take_snoc (l : List Int) (k : Nat) (hk : k < l.length) : bitsB (l.take (k + 1)) = bitsB (l.take k) ++ bitsV (l.getD k 0) 8 := by
  rw [take_snoc_getD l k hk, bitsB_append]
  simp [bitsB]

set_option maxHeartbeats 2000000 in
theorem rof_call (w : World) (sp : Option Addr) (n c : Nat) (l : List Int) (hl : l.length = n) (hS : Src w .u8 sp l) (hb : ∀ x ∈ l, 0 ≤ x ∧ x ≤ 255) (hs : n ≤ 1000000) :
    Calls Try.prog 19 #[.slice sp n c] w fun e w' => ∃ v, e = .returned v ∧ NewI w (8 * n) (bitsB l) v w' := by
  have HL := Lib.hid hl
  have HS := Lib.hid hS
  have HB := Lib.hid hb
  clear hl hS hb
  go_enter Try.func19, Try.ntmps19
  go_wp2_with fail
  go_loopw [3, 4] (fun o x wr => ∃ (k m : Nat) (A1 : Option Nat) (c1 : Nat), k ≤ n ∧ m = 8 * k ∧ x = .int .i64 k ∧ o = .slice (ad0 A1) m c1 ∧ OwnS wr .i64 3 A1 c1 (bitsB (l.take k)) ∧ (∀ g, A1 = some g → w.heap.size ≤ g) ∧ Below w.heap.size w wr) (fun _ x _ => n - (intOf x).toNat)
  case atStart => exact ⟨0, 0, none, 0, Nat.zero_le _, rfl, rfl, rfl, OwnS.nil _ _ _, by simp, Below.refl _ _⟩
  case round =>
    obtain ⟨k, m, A1, c1, hk, hm, rfl, rfl, ho, ha, hbr⟩ := hrel
    have HO := Lib.hid ho
    have HA := Lib.hid ha
    have HBR := Lib.hid hbr
    have hm8 : m ≤ 8000000 := by omega
    have HM := Lib.hid hm
    clear ho ha hbr hm
    by_cases hlt : k < n
    · have hS2 := HS.out
      rcases hS2 with rfl | ⟨g, o, rfl, hc⟩
      · have := HL.out
        simp at this
        omega
      have hci := (HBR.out.cell (World.block_lt_of_cell? w _ (hc k (by rw [HL.out]; exact hlt)))).trans (hc k (by rw [HL.out]; exact hlt))
      have hxb : 0 ≤ l.getD k 0 ∧ l.getD k 0 ≤ 255 := by
        rw [getD_in _ _ (by rw [HL.out]; exact hlt)]
        exact HB.out _ (List.getElem_mem _)
      have hsn := bitsB_take_snoc l k (by rw [HL.out]; exact hlt)
      obtain ⟨x, hx⟩ : ∃ x, x = l.getD k 0 := ⟨_, rfl⟩
      rw [← hx] at hci hxb hsn
      obtain ⟨hx0, hx1⟩ := hxb
      have hlen : (bitsB (l.take k)).length = m := by rw [bitsB_length, List.length_take, HL.out, HM.out]; omega
      have HSN := Lib.hid hsn
      have HLEN := Lib.hid hlen
      clear hc hx hsn hlen
      go_wp2_with fail
      refine (number_ok x 8 wr hx0 (by omega) (by omega)).mono ?_
      rintro e w1 ⟨u, rfl, A2, c2, rfl, ho2, ha2, hb2⟩
      have HO2 := Lib.hid ho2
      have HB2 := Lib.hid (HBR.out.trans (hb2.mono HBR.out.size))
      have HO1 := Lib.hid (HO.out.below hb2)
      clear ho2 ha2 hb2
      go_wp2_with (at_builtin; go_must (
        refine wpList_appendI rfl _ _ 28 rfl 3 .i64 8 Try.underlying28 intI A1 c1 (bitsB (l.take k)) m HLEN.out rfl HO1.out (ad0 A2) 8 c2 rfl (bitsV x 8) (bitsV_length _ _) HO2.out.src (by unfold maxLen; omega) (by omega) ?_
        intro A3 c3 w3 hown hgr halt
        have HO3 := Lib.hid hown
        have HG3 := Lib.hid hgr
        have HA3 := Lib.hid halt
        clear hown hgr halt))
      go_roundw
      case rel =>
        refine ⟨k + 1, m + 8, A3, c3, by omega, by have := HM.out; omega, by go_num, rfl, by rw [HSN.out]; exact HO3.out, fun g e => ?_, HB2.out.grown HG3.out HB2.out.size (fun g e => HA.out g e)⟩
        have := HB2.out.size
        rcases HA3.out with h1 | h1
        · exact HA.out g (by rw [← h1]; exact e)
        · rw [h1] at e
          injection e with e
          omega
      case measure => simp [intOf]; omega
    · obtain rfl : k = n := by omega
      have htk : l.take k = l := List.take_of_length_le (by rw [HL.out]; exact Nat.le_refl _)
      have hO := HO.out
      rw [htk] at hO
      have HO2 := Lib.hid hO
      clear htk hO
      go_wp2
      go_ret
      exact ⟨_, rfl, A1, c1, congrArg (fun m => Value.slice (ad0 A1) m c1) HM.out, HO2.out, HA.out, HBR.out⟩

set_option maxHeartbeats 2000000 in
theorem rget_no (w : World) (sp : Option Addr) (n c : Nat) (l : List Int) (hl : l.length = n) (hS : Src w .u8 sp l) (hb : ∀ x ∈ l, 0 ≤ x ∧ x ≤ 255) (hs : n ≤ 1000000) (at_ wd : Int) (hat : at_ ≤ 9223372036854775807) (h : ¬ (0 ≤ wd ∧ wd ≤ 32 ∧ 0 ≤ at_ ∧ at_ + wd ≤ 8 * n)) :
    Calls Try.prog 16 #[.slice sp n c, .int .i64 at_, .int .i64 wd] w fun e w' => e = .returned (.tuple #[.int .u32 0, .bool false]) ∧ Below w.heap.size w w' := by
  have hof := rof_call w sp n c l hl hS hb hs
  have HOF := Lib.hid hof
  clear hof hl hS hb
  go_enter Try.func16, Try.ntmps16
  go_wp2_with fail
  refine HOF.out.mono ?_
  rintro e w1 ⟨v, rfl, A1, c1, rfl, ho1, ha1, hb1⟩
  have HB1 := Lib.hid hb1
  clear ho1 ha1 hb1
  by_cases h1 : wd < 0
  · have d1 : decide (wd < 0) = true := by simpa using h1
    clear h
    go_wp2
    go_ret2
    exact ⟨rfl, HB1.out⟩
  · have d1 : decide (wd < 0) = false := by simpa using h1
    by_cases h2 : 32 < wd
    · have d2 : decide (32 < wd) = true := by simpa using h2
      clear h
      go_wp2
      go_ret2
      exact ⟨rfl, HB1.out⟩
    · have d2 : decide (32 < wd) = false := by simpa using h2
      by_cases h3 : at_ < 0
      · have d3 : decide (at_ < 0) = true := by simpa using h3
        clear h
        go_wp2
        go_ret2
        exact ⟨rfl, HB1.out⟩
      · have d3 : decide (at_ < 0) = false := by simpa using h3
        obtain ⟨m, hm⟩ : ∃ m, m = 8 * n := ⟨_, rfl⟩
        rw [← hm]
        have hm8 : m ≤ 8000000 := by omega
        have hw0 : 0 ≤ wd := by omega
        have hw1 : wd ≤ 32 := by omega
        by_cases h4 : (m : Int) < wd
        · have d4 : decide ((m : Int) < wd) = true := by simpa using h4
          clear h hm
          go_wp2
          go_ret2
          exact ⟨rfl, HB1.out⟩
        · have d4 : decide ((m : Int) < wd) = false := by simpa using h4
          have d5 : decide ((m : Int) - wd < at_) = true := by simp; omega
          clear h hm
          go_wp2
          go_ret2
          exact ⟨rfl, HB1.out⟩

set_option maxHeartbeats 2000000 in
theorem rget_yes (w : World) (sp : Option Addr) (n c : Nat) (l : List Int) (hl : l.length = n) (hS : Src w .u8 sp l) (hb : ∀ x ∈ l, 0 ≤ x ∧ x ≤ 255) (hs : n ≤ 1000000) (at_ wd : Nat) (hw : wd ≤ 32) (ham : at_ + wd ≤ 8 * n) :
    Calls Try.prog 16 #[.slice sp n c, .int .i64 at_, .int .i64 wd] w fun e w' => e = .returned (.tuple #[.int .u32 (valV (((bitsB l).drop at_).take wd)), .bool true]) ∧ Below w.heap.size w w' := by
  have hof := rof_call w sp n c l hl hS hb hs
  have hLB : (bitsB l).length = 8 * n := by rw [bitsB_length, hl]
  have HOF := Lib.hid hof
  have HLB := Lib.hid hLB
  obtain ⟨m, hm⟩ : ∃ m, m = 8 * n := ⟨_, rfl⟩
  have HM := Lib.hid hm
  have hm8 : m ≤ 8000000 := by omega
  have ham2 : at_ + wd ≤ m := by omega
  have d1 : decide ((wd : Int) < 0) = false := by simp
  have d2 : decide (32 < (wd : Int)) = false := by simp; omega
  have d3 : decide ((at_ : Int) < 0) = false := by simp
  have d4 : decide ((m : Int) < (wd : Int)) = false := by simp; omega
  have d5 : decide ((m : Int) - (wd : Int) < (at_ : Int)) = false := by simp; omega
  clear hof hl hS hb hLB hm
  go_enter Try.func16, Try.ntmps16
  go_wp2_with fail
  refine HOF.out.mono ?_
  rintro e w1 ⟨v, rfl, A1, c1, rfl, ho1, ha1, hb1⟩
  have HB1 := Lib.hid hb1
  have HO1 := Lib.hid ho1
  clear ho1 ha1 hb1
  rw [← HM.out]
  go_wp2_with fail
  go_loop [9, 10] (fun x i => ∃ k : Nat, k ≤ wd ∧ i = .int .i64 k ∧ x = .int .u32 (valV (((bitsB l).drop at_).take k))) (fun _ i => wd - (intOf i).toNat)
  case atStart => exact ⟨0, Nat.zero_le _, rfl, rfl⟩
  case round =>
    obtain ⟨k, hk, rfl, rfl⟩ := hrel
    have hbn : Bin (((bitsB l).drop at_).take k) := fun x hx => bitsB_bin l x (List.mem_of_mem_drop (List.mem_of_mem_take hx))
    have hvb := valV_bd _ hbn
    have hlk : (((bitsB l).drop at_).take k).length = k := by rw [List.length_take, List.length_drop, HLB.out, ← HM.out]; omega
    rw [hlk] at hvb
    by_cases hlt : k < wd
    · have hp31 : 2 ^ k ≤ 2 ^ 31 := Nat.pow_le_pow_right (by omega) (by omega)
      have hsn : ((bitsB l).drop at_).take (k + 1) = ((bitsB l).drop at_).take k ++ [(bitsB l).getD (at_ + k) 0] := by
        rw [take_snoc_getD _ k (by rw [List.length_drop, HLB.out, ← HM.out]; omega)]
        congr 2
        simp [List.getD_eq_getElem?_getD, List.getElem?_drop]
      have hv2 := congrArg valV hsn
      rw [valV_snoc] at hv2
      obtain ⟨g, rfl⟩ := HO1.out.pos (by rw [HLB.out, ← HM.out]; omega)
      have hci := HO1.out.cell (at_ + k) (by rw [HLB.out, ← HM.out]; omega)
      have hbit := (bitsB_bin l).getD (at_ + k)
      obtain ⟨x, hx⟩ : ∃ x, x = (bitsB l).getD (at_ + k) 0 := ⟨_, rfl⟩
      obtain ⟨v, hv⟩ : ∃ v, v = valV (((bitsB l).drop at_).take k) := ⟨_, rfl⟩
      rw [← hx] at hci hbit hv2
      rw [← hv] at hvb hv2 ⊢
      have hx0 : 0 ≤ x := by omega
      have hx1 : x ≤ 1 := by omega
      have hv0 : 0 ≤ v := hvb.1
      have hv1 : v ≤ 2147483647 := by omega
      have HV2 := Lib.hid hv2
      rw [ad0_some]
      clear hx hv hv2 hsn hbn hvb hlk hbit hp31
      go_wp2
      go_round
      case rel => exact ⟨k + 1, by omega, by go_num, by rw [HV2.out]⟩
      case measure => simp [intOf]; omega
    · obtain rfl : k = wd := by omega
      clear hbn hvb hlk
      go_wp2
      go_ret2
      exact ⟨rfl, HB1.out⟩
end Go.Proofs.Ythofbdlnbfpfeaa
