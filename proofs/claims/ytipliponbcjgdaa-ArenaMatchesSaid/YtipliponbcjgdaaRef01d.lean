/- The reference of layer 1 (arena), fourth part: Take, Store. -/
import Derived.Test.YtipliponbcjgdaaRef01c
set_option linter.unusedVariables false
set_option linter.unusedSimpArgs false
namespace Go.Proofs.Ytipliponbcjgdaa
open Go.RowKit
section
variable {w : World} {p q : Nat} {mem : List Int} {live peak : Nat}

theorem splice_snoc {α : Type} (L : List α) (o : Nat) (cs : List α) (x : α) (h : o + cs.length < L.length) : (splice L o cs).set (o + cs.length) x = splice L o (cs ++ [x]) := by
  unfold splice
  have h1 : (L.take o).length = o := by rw [List.length_take]; omega
  rw [List.set_append_right _ _ (by rw [h1]; omega), h1, List.set_append_right _ _ (by omega)]
  rw [show o + cs.length - o - cs.length = 0 by omega, List.drop_eq_getElem_cons h, List.set_cons_zero, List.length_append, List.length_singleton, ← Nat.add_assoc, List.append_assoc, List.singleton_append]
theorem _root_.Go.RowKit.Below.drewN' {B : Nat} {w w' : World} (h : Below B w w') (n : Nat) : Below B w (w'.drewN n) := ⟨h.os, h.tape, h.output, h.size, h.block⟩
theorem Kp.drew' {p q : Nat} {w w' : World} (h : Kp p q w w') : Kp p q w w'.drew := h.trans (Kp.drew _ _ _)
theorem splice_nil' {α : Type} (L : List α) (o : Nat) : splice L o [] = L := by simp [splice]

set_option maxHeartbeats 400000 in
theorem rtake_neg (w : World) (p : Nat) (n : Int) (hh : n < 0) :
    Calls Try.prog 25 #[.pointer (some ⟨p, 0, none⟩), .int .i64 n] w fun e w' =>
      e = .returned (.tuple #[.agg #[.int .i64 0, .int .i64 0], .int .i64 2]) ∧ Below w.heap.size w w' := by
  have d1 : decide (n < 0) = true := by simpa using hh
  go_enter Try.func25, Try.ntmps25
  go_wp2
  exact bodyPost_ret (v := .tuple #[.agg #[.int .i64 0, .int .i64 0], .int .i64 2]) (by simp [results, Try.results25, go_sem]) rfl ⟨rfl, (Below.refl _ _).alloc (Nat.le_refl _) _⟩

set_option maxHeartbeats 400000 in
theorem rtake_full (h : Ra w p q mem live peak) (n : Int) (hn : 0 ≤ n) (hh : (mem.length : Int) - live < n) :
    Calls Try.prog 25 #[.pointer (some ⟨p, 0, none⟩), .int .i64 n] w fun e w' =>
      e = .returned (.tuple #[.agg #[.int .i64 0, .int .i64 0], .int .i64 10]) ∧ Below w.heap.size w w' := by
  have d1 : decide (n < 0) = false := by simp; omega
  have d2 : decide ((mem.length : Int) - live < n) = true := by simpa using hh
  have h1 := h.alloc (.cells #[Value.int IntKind.i64 0, Value.int IntKind.i64 0] 34)
  have c0 := h1.c0
  have c1 := h1.c1
  have hsm := h.small
  have hll := h.ll
  have e1 : IntKind.i64.wrap ((mem.length : Int) - live) = (mem.length : Int) - live := IntWalk.i64_in _ (by omega)
  clear h1 h
  go_enter Try.func25, Try.ntmps25
  go_wp2_with fail
  go_quiet (fail)
  go_wp2
  exact bodyPost_ret (v := .tuple #[.agg #[.int .i64 0, .int .i64 0], .int .i64 10]) (by simp [results, Try.results25, go_sem]) rfl ⟨rfl, ((((Below.refl _ _).alloc (Nat.le_refl _) _).drewN' _).setCell (Nat.le_refl _) _).setCell (Nat.le_refl _) _⟩

set_option maxHeartbeats 2000000 in
theorem rtake_yes (h : Ra w p q mem live peak) (n : Nat) (hh : live + n ≤ mem.length) :
    Calls Try.prog 25 #[.pointer (some ⟨p, 0, none⟩), .int .i64 n] w fun e w' =>
      e = .returned (.tuple #[.agg #[.int .i64 live, .int .i64 n], .int .i64 0]) ∧ Kp p q w w' ∧ Ra w' p q (splice mem live (List.replicate n 0)) (live + n) (max peak (live + n)) := by
  have d1 : decide ((n : Int) < 0) = false := by simp
  have d2 : decide ((mem.length : Int) - live < (n : Int)) = false := by simp; omega
  have h1 := h.alloc (.cells #[Value.int IntKind.i64 0, Value.int IntKind.i64 0] 34)
  have c0 := h1.c0
  have c1 := h1.c1
  have hsm := h.small
  have hll := h.ll
  have hpl := h.pl
  have hp1 := h.plt
  have hq1 := h.qlt
  have e1 : IntKind.i64.wrap ((mem.length : Int) - live) = (mem.length : Int) - live := IntWalk.i64_in _ (by omega)
  have HH := Lib.hid h
  clear h1 h
  go_enter Try.func25, Try.ntmps25
  go_wp2_with fail
  go_quiet (fail)
  go_wp2_with fail
  clear c0 c1 d1 d2 e1
  obtain ⟨w2, hw2⟩ : ∃ W, W = (((w.alloc (.cells #[Value.int IntKind.i64 0, Value.int IntKind.i64 0] 34)).drewN nq).alloc (.cells #[Value.int IntKind.i64 live, Value.int IntKind.i64 n] 34)) := ⟨_, rfl⟩
  have hB2 : Below w.heap.size w w2 := by rw [hw2]; exact (((Below.refl _ _).alloc (Nat.le_refl _) _).drewN' _).alloc (by simp) _
  have hs2 : w2.heap.size = w.heap.size + 2 := by rw [hw2]; simp
  have hra2 : Ra w2 p q mem live peak := HH.out.below hB2
  have z0 : w2.heap[w.heap.size]? = some (.cells #[Value.int IntKind.i64 0, Value.int IntKind.i64 0] 34 (0, 0)) := by
    rw [hw2, Below.heap_alloc _ _ _ (by simp)]
    exact heap_alloc_new w _
  have z1 : w2.heap[w.heap.size + 1]? = some (.cells #[Value.int IntKind.i64 live, Value.int IntKind.i64 n] 34 (0, 0)) := by
    have := heap_alloc_new ((w.alloc (.cells #[Value.int IntKind.i64 0, Value.int IntKind.i64 0] 34)).drewN nq) (.cells #[Value.int IntKind.i64 live, Value.int IntKind.i64 n] 34)
    rw [hw2]
    simpa using this
  rw [← hw2]
  clear hw2
  have HR2 := Lib.hid hra2
  have HB2 := Lib.hid hB2
  have Z0 := Lib.hid z0
  have Z1 := Lib.hid z1
  clear hra2 hB2 z0 z1
  go_loopw [7] (fun x wr => ∃ k : Nat, k ≤ n ∧ x = .int .i64 k ∧ Ra wr p q (splice mem live (List.replicate k 0)) live peak ∧ Kp p q w2 wr) (fun x _ => n - (intOf x).toNat)
  case atStart => exact ⟨0, Nat.zero_le _, rfl, by rw [List.replicate_zero, splice_nil']; exact HR2.out, Kp.refl _ _ _⟩
  case round =>
    obtain ⟨k, hk, rfl, hr, hK⟩ := hrel
    have hln : (splice mem live (List.replicate k (0 : Int))).length = mem.length := splice_length _ _ _ (by simp; omega)
    have c0 := hr.c0
    rw [hln] at c0
    have c1 := hr.c1
    have HR := Lib.hid hr
    have HK := Lib.hid hK
    by_cases hlt : k < n
    · have cq := hr.cq (live + k) (by omega)
      have fq := hr.fq (live + k)
      have e1 : IntKind.i64.wrap ((live : Int) + k) = (live : Int) + k := IntWalk.i64_in _ (by omega)
      have g0 : (0 : Int) ≤ (live : Int) + k := by omega
      have g1 : (live : Int) + k < (mem.length : Int) := by omega
      have g2 : ((live : Int) + k).toNat = live + k := by omega
      clear hr hK hln
      go_wp2_with fail
      go_region
      go_wp2
      go_roundw
      case rel =>
        refine ⟨k + 1, by omega, by go_num, ?_, ?_⟩
        · have := (HR.out.setByte (k := live + k) (c := 0) (by omega)).drew
          rw [List.replicate_succ', ← splice_snoc _ _ _ _ (by simp; omega), List.length_replicate]
          exact this
        · exact HK.out.trans ((Kp.setQ _ _ _ _ _).trans (Kp.drew _ _ _))
      case measure => simp [intOf]; omega
    · obtain rfl : k = n := by omega
      have c2 := hr.c2
      have f1 := hr.f0 1
      have f2 := hr.f0 2
      have y0 := HK.out.row Z0.out (by omega) (by omega)
      have y1 := HK.out.row Z1.out (by omega) (by omega)
      have x0 : wr.cell? ⟨w.heap.size, 0, none⟩ = some (.int .i64 0) := by simp [World.cell?, y0]
      have x1 : wr.cell? ⟨w.heap.size, 1, none⟩ = some (.int .i64 0) := by simp [World.cell?, y0]
      have x2 : wr.cell? ⟨w.heap.size + 1, 0, none⟩ = some (.int .i64 live) := by simp [World.cell?, y1]
      have x3 : wr.cell? ⟨w.heap.size + 1, 1, none⟩ = some (.int .i64 k) := by simp [World.cell?, y1]
      have x4 : wr.frozen? ⟨w.heap.size, 0, none⟩ = false := by simp [World.frozen?, y0]
      have x5 : wr.frozen? ⟨w.heap.size, 1, none⟩ = false := by simp [World.frozen?, y0]
      have e2 : IntKind.i64.wrap ((live : Int) + k) = (live : Int) + k := IntWalk.i64_in _ (by omega)
      have hn1 : ¬ p = w.heap.size := by omega
      have hn2 : ¬ p = w.heap.size + 1 := by omega
      clear hr hK hln y0 y1
      go_wp2_with fail
      go_region
      go_wp2_with fail
      all_goals
        refine bodyPost_ret (v := .tuple #[.agg #[.int .i64 live, .int .i64 k], .int .i64 0]) (by simp [results, Try.results25, go_sem, hn1, hn2, x0, x1, x4, x5]) rfl ⟨rfl, ?_, ?_⟩
        · exact (((((Kp.of_below HB2.out).trans HK.out).trans (Kp.setP _ _ _ _ _)).trans (Kp.setP _ _ _ _ _)).setNew _ _ (Nat.le_refl _)).setNew _ _ (Nat.le_refl _) |>.drew'
        · exact ((((HR.out.setLive (n := live + k) (by omega) (by rw [splice_length _ _ _ (by simp; omega)]; omega)).setPeak (n := max peak (live + k)) (by omega) (by rw [splice_length _ _ _ (by simp; omega)]; omega)).setOther _ (by simp; omega) (by simp; omega)).setOther _ (by simp; omega) (by simp; omega)).drew

set_option maxHeartbeats 400000 in
theorem rstore_no (h : Ra w p q mem live peak) (a n i : Int) (sp : Option Addr) (m c : Nat) (hn : n ≤ 9223372036854775807) (hh : storeOk live a n i m = false) :
    Calls Try.prog 30 #[.pointer (some ⟨p, 0, none⟩), .agg #[.int .i64 a, .int .i64 n], .int .i64 i, .slice sp m c] w fun e w' =>
      e = .returned (.bool false) ∧ Kp p q w w' ∧ Ra w' p q mem live peak := by
  have h1 := h.alloc (.cells #[Value.int IntKind.i64 a, Value.int IntKind.i64 n] 34)
  have hz0 : (w.alloc (.cells #[Value.int IntKind.i64 a, Value.int IntKind.i64 n] 34)).cell? ⟨w.heap.size, 0, none⟩ = some (.int .i64 a) := by simp
  go_enter Try.func30, Try.ntmps30
  go_wp2_with fail
  refine (rin_call h1 a n i m hn (by omega)).mono ?_
  rintro e w1 ⟨rfl, hb⟩
  rw [inB_store, hh]
  have hF := Lib.hid hb
  have hA := Lib.hid (h1.below hb)
  clear hh h1 h hb
  go_wp2
  go_ret
  exact ⟨rfl, (Kp.alloc _ _ _ _).trans (Kp.of_below hF.out), hA.out⟩

set_option maxHeartbeats 2000000 in
theorem rstore_yes (h : Ra w p q mem live peak) (a n i : Nat) (sp : Option Addr) (m c : Nat) (l : List Int) (hl : l.length = m) (hsp : Src w .u8 sp l) (hby : Byts l) (hsd : 0 < m → ∀ x, sp = some x → x.block < w.heap.size ∧ x.block ≠ p ∧ x.block ≠ q)
    (hh : storeOk live a n i m = true) (hin : i + m ≤ n) (hal : a + n ≤ live) :
    Calls Try.prog 30 #[.pointer (some ⟨p, 0, none⟩), .agg #[.int .i64 a, .int .i64 n], .int .i64 i, .slice sp m c] w fun e w' =>
      e = .returned (.bool true) ∧ Kp p q w w' ∧ Ra w' p q (splice mem (a + i) l) live peak := by
  have h1 := h.alloc (.cells #[Value.int IntKind.i64 a, Value.int IntKind.i64 n] 34)
  have hll := h.ll
  have hsm := h.small
  have hp1 := h.plt
  have hq1 := h.qlt
  go_enter Try.func30, Try.ntmps30
  go_wp2_with fail
  refine (rin_call h1 a n i m (by omega) (by omega)).mono ?_
  rintro e w1 ⟨rfl, hb⟩
  rw [inB_store, hh]
  have HR2 := Lib.hid (h1.below hb)
  have hs1 := hb.size
  simp at hs1
  have hB1 : Below w.heap.size w w1 := ((Below.refl _ _).alloc (Nat.le_refl _) _).trans (hb.mono (by simp))
  have HB1 := Lib.hid hB1
  have HS := Lib.hid (hsp.below hB1)
  have Z0 := Lib.hid ((hb.cell (p := ⟨w.heap.size, 0, none⟩) (by simp)).trans (by simp) : w1.cell? ⟨w.heap.size, 0, none⟩ = some (.int .i64 a))
  have HL := Lib.hid hl
  have HY := Lib.hid hby
  have HD := Lib.hid hsd
  clear hh h1 h hb hB1 hsp hl hby hsd
  go_wp2_with fail
  go_loopw [9] (fun x wr => ∃ k : Nat, k ≤ m ∧ x = .int .i64 k ∧ Ra wr p q (splice mem (a + i) (l.take k)) live peak ∧ Kp p q w1 wr) (fun x _ => m - (intOf x).toNat)
  case atStart => exact ⟨0, Nat.zero_le _, rfl, by rw [List.take_zero, splice_nil']; exact HR2.out, Kp.refl _ _ _⟩
  case round =>
    obtain ⟨k, hk, rfl, hr, hK⟩ := hrel
    have htk : (l.take k).length = k := by rw [List.length_take, HL.out]; omega
    have hln : (splice mem (a + i) (l.take k)).length = mem.length := splice_length _ _ _ (by rw [htk]; omega)
    have c0 := hr.c0
    rw [hln] at c0
    have HR := Lib.hid hr
    have HK := Lib.hid hK
    by_cases hlt : k < m
    · obtain ⟨g, o, rfl, hcell⟩ : ∃ g o, sp = some ⟨g, o, none⟩ ∧ ∀ j, j < l.length → w1.cell? ⟨g, o + j, none⟩ = some (.int .u8 (l.getD j 0)) := by
        rcases HS.out with h0 | h0
        · have := HL.out
          rw [h0] at this
          simp at this
          omega
        · exact h0
      obtain ⟨hg1, hg2, hg3⟩ := HD.out (by omega) _ rfl
      have cs : wr.cell? ⟨g, o + k, none⟩ = some (.int .u8 (l.getD k 0)) := hK.cell (hcell k (by rw [HL.out]; exact hlt)) hg2 hg3
      have cz : wr.cell? ⟨w.heap.size, 0, none⟩ = some (.int .i64 a) := hK.cell Z0.out (by simp; omega) (by simp; omega)
      have cq := hr.cq (a + i + k) (by omega)
      have fq := hr.fq (a + i + k)
      have e1 : IntKind.i64.wrap ((a : Int) + i) = (a : Int) + i := IntWalk.i64_in _ (by omega)
      have e2 : IntKind.i64.wrap ((a : Int) + i + k) = (a : Int) + i + k := IntWalk.i64_in _ (by omega)
      have g0 : (0 : Int) ≤ (a : Int) + i + k := by omega
      have g1 : (a : Int) + i + k < (mem.length : Int) := by omega
      have g2 : ((a : Int) + i + k).toNat = a + i + k := by omega
      have g3 : (k : Int) < (m : Int) := by omega
      clear hr hK hcell
      go_wp2_with fail
      go_region
      go_wp2
      go_roundw
      case rel =>
        refine ⟨k + 1, by omega, by go_num, ?_, ?_⟩
        · have hb2 : 0 ≤ l.getD k 0 ∧ l.getD k 0 ≤ 255 := HY.out.bd k
          have := (HR.out.setByte (k := a + i + k) hb2).drew
          have hs := splice_snoc mem (a + i) (l.take k) (l.getD k 0) (by rw [htk]; omega)
          rw [htk] at hs
          have ht : l.take k ++ [l.getD k 0] = l.take (k + 1) := by
            have hkl : k < l.length := by rw [HL.out]; exact hlt
            rw [List.take_succ_eq_append_getElem hkl, List.getD_eq_getElem?_getD, List.getElem?_eq_getElem hkl, Option.getD_some]
          rw [← ht, ← hs]
          exact this
        · exact HK.out.trans ((Kp.setQ _ _ _ _ _).trans (Kp.drew _ _ _))
      case measure => simp [intOf]; omega
    · obtain rfl : k = m := by omega
      have htl : l.take k = l := List.take_of_length_le (Nat.le_of_eq HL.out)
      clear hr hK
      go_wp2
      go_ret
      refine ⟨rfl, (Kp.of_below HB1.out).trans HK.out, ?_⟩
      have := HR.out
      rw [htl] at this
      exact this
end
end Go.Proofs.Ytipliponbcjgdaa
