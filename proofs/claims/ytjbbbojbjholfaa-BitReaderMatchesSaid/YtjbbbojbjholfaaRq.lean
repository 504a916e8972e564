/- The reference of layer 3: its reader. -/
import Derived.Test.YtjbbbojbjholfaaRf3
import Derived.Deep.DeepCutAuto
set_option linter.unusedVariables false
set_option linter.unusedSimpArgs false
namespace Go.Proofs.Ytjbbbojbjholfaa
open Go.RowKit

theorem below_drewN {B : Nat} {a w : World} (h : Below B a w) (n : Nat) : Below B a (w.drewN n) := ⟨h.os, h.tape, h.output, h.size, h.block⟩
/-- A reference reader in memory. -/
structure Rf (w : World) (r : Nat) (a : Option Addr) (c : Nat) (f : List Int) (u : Nat) (e : Bool) : Prop where
  hp : w.heap[r]? = some (.cells #[.slice a f.length c, .int .i64 u, .bool e] 30 (0, 0))
  row : WinS w .u8 5 a c f
  byts : ∀ x ∈ f, 0 ≤ x ∧ x ≤ 255
  le : u ≤ 8 * f.length
  small : f.length ≤ 1000000
section
variable {w w' : World} {r : Nat} {a : Option Addr} {c : Nat} {f : List Int} {u : Nat} {e : Bool}
theorem Rf.ne (h : Rf w r a c f u e) {g : Nat} (hg : blk a = some g) : g ≠ r := by
  rintro rfl
  obtain ⟨cur, h1⟩ := h.row.row hg
  have h2 := h.hp
  rw [h1] at h2
  injection h2 with h2
  injection h2 with _ h2
  revert h2
  decide
theorem Rf.plt (h : Rf w r a c f u e) : r < w.heap.size := (Array.getElem?_eq_some_iff.1 h.hp).1
theorem Rf.fpLt (h : Rf w r a c f u e) {k : Nat} (hk : Rp r a k) : k < w.heap.size := by
  rcases hk with rfl | hk
  · exact h.plt
  · exact h.row.lt hk
theorem Rf.c0 (h : Rf w r a c f u e) : w.cell? ⟨r, 0, none⟩ = some (.slice a f.length c) := by simp [World.cell?, h.hp]
theorem Rf.c1 (h : Rf w r a c f u e) : w.cell? ⟨r, 1, none⟩ = some (.int .i64 u) := by simp [World.cell?, h.hp]
theorem Rf.c2 (h : Rf w r a c f u e) : w.cell? ⟨r, 2, none⟩ = some (.bool e) := by simp [World.cell?, h.hp]
theorem Rf.fz (h : Rf w r a c f u e) (i : Nat) : w.frozen? ⟨r, i, none⟩ = false := by simp [World.frozen?, h.hp]
theorem Rf.ch {S : Nat → Prop} (h : Rf w r a c f u e) (hc : Ch S w w') (hn : ∀ k, Rp r a k → ¬ S k) : Rf w' r a c f u e :=
  ⟨hc.heap h.hp (hn r (.inl rfl)), h.row.ch hc (fun g hg => hn g (.inr hg)), h.byts, h.le, h.small⟩
theorem Rf.below (h : Rf w r a c f u e) (hb : Below w.heap.size w w') : Rf w' r a c f u e := h.ch (Ch.of_below (S := fun _ => False) hb) (fun _ _ e => e)
theorem Rf.drew (h : Rf w r a c f u e) : Rf w.drew r a c f u e := ⟨h.hp, h.row, h.byts, h.le, h.small⟩
theorem Rf.drewN (h : Rf w r a c f u e) (n : Nat) : Rf (w.drewN n) r a c f u e := ⟨h.hp, h.row, h.byts, h.le, h.small⟩
end
/-- The reference reader r has now f, u, e; nothing else of what there was has changed. -/
def NowF (w : World) (r : Nat) (a : Option Addr) (f : List Int) (u : Nat) (e : Bool) (w' : World) : Prop := ∃ a' c', Rf w' r a' c' f u e ∧ Ch (Rp r a) w w' ∧ ∀ g, blk a' = some g → blk a = some g ∨ w.heap.size ≤ g

section
variable {w : World} {r : Nat} {a : Option Addr} {c : Nat} {f : List Int} {u : Nat} {e : Bool}
theorem Rf.used (h : Rf w r a c f u e) (u' : Nat) (hu : u' ≤ 8 * f.length) (v : Int) (hv : v = (u' : Int)) : NowF w r a f u' e (w.setCell ⟨r, 1, none⟩ (.int .i64 v)) := by
  subst hv
  exact ⟨a, c, ⟨set1of3 h.hp, h.row.ch ((Ch.refl (fun k => k = r) w).setCell ⟨r, 1, none⟩ _ (.inl rfl)) (fun g hg => h.ne hg), h.byts, hu, h.small⟩, (Ch.refl _ _).setCell _ _ (.inl (.inl rfl)), fun g e => .inl e⟩
theorem Rf.ends (h : Rf w r a c f u e) : NowF w r a f u true (w.setCell ⟨r, 2, none⟩ (.bool true)) :=
  ⟨a, c, ⟨set2of3 h.hp, h.row.ch ((Ch.refl (fun k => k = r) w).setCell ⟨r, 2, none⟩ _ (.inl rfl)) (fun g hg => h.ne hg), h.byts, h.le, h.small⟩, (Ch.refl _ _).setCell _ _ (.inl (.inl rfl)), fun g e => .inl e⟩

theorem rfeed_no (h : Rf w r a c f u true) (sp : Option Addr) (m cc : Nat) :
    Calls Try.prog 12 #[.pointer (some ⟨r, 0, none⟩), .slice sp m cc] w fun x w' => x = .returned (.bool false) ∧ w = w' := by
  have h2 := h.c2
  clear h
  go_enter Try.func12, Try.ntmps12
  go_wp2
  go_ret
  exact ⟨rfl, rfl⟩
set_option maxHeartbeats 1000000 in
theorem rfeed_yes (h : Rf w r a c f u false) (d : Chk) (hok : OkC w d) (hsm : f.length + d.bs.length ≤ 1000000) :
    Calls Try.prog 12 #[.pointer (some ⟨r, 0, none⟩), .slice d.a d.len d.cap] w fun x w' => x = .returned (.bool true) ∧ NowF w r a (f ++ d.bs) u false w' := by
  have h2 := h.c2
  have h0 := h.c0
  have hfz := h.fz 0
  have hpl := h.plt
  have hdl := hok.len
  have H := Lib.hid h
  have HOK := Lib.hid hok
  obtain ⟨n, hn⟩ : ∃ n, n = f.length := ⟨_, rfl⟩
  rw [← hn] at h0
  have hnm : n + d.len ≤ 1000000 := by omega
  have HN := Lib.hid hn
  clear h hok hn
  go_enter Try.func12, Try.ntmps12
  go_wp2_with (at_builtin; go_must (
    refine wpList_appendW rfl _ _ 28 rfl 5 .u8 1 sliceT byteI a c f n HN.out.symm rfl H.out.row d.a d.len d.cap rfl d.bs HOK.out.len HOK.out.src (by unfold maxLen; omega) (by omega) ?_
    intro a2 c2 w2 hw hg ha
    have hc2 : w2.cell? ⟨r, 0, none⟩ = some (.slice a n c) := hg.cell h0 (fun e => H.out.ne e.symm rfl)
    have hp2 := (hg.block r hpl (fun e => H.out.ne e.symm rfl)).trans H.out.hp
    have hf2 : w2.frozen? ⟨r, 0, none⟩ = false := by simp [World.frozen?, hp2]
    have HP2 := Lib.hid hp2
    have HW := Lib.hid hw
    have HG := Lib.hid hg
    have HAA := Lib.hid ha
    clear hw hg ha hp2))
  go_ret
  refine ⟨rfl, a2, c2, ⟨?_, ?_, ?_, ?_, by rw [List.length_append]; omega⟩, ?_, ?_⟩
  · rw [set0of3 HP2.out, List.length_append, HN.out, hdl]
  · refine HW.out.ch ((Ch.refl (fun k => k = r) _).setCell ⟨r, 0, none⟩ _ (.inl rfl)) (fun g e => ?_)
    rcases HAA.out with h1 | h1
    · exact H.out.ne (by rw [← h1]; exact e)
    · rw [h1] at e
      injection e with e
      omega
  · intro x hx
    rcases List.mem_append.1 hx with h1 | h1
    · exact H.out.byts x h1
    · exact HOK.out.byts x h1
  · have := H.out.le
    rw [List.length_append]
    omega
  · exact ((Ch.refl _ _).grown HG.out (fun g e => .inl (.inr e))).setCell _ _ (.inl (.inl rfl))
  · intro g e
    rcases HAA.out with h1 | h1
    · exact .inl (by rw [← h1]; exact e)
    · rw [h1] at e
      injection e with e
      exact .inr (by omega)

set_option maxHeartbeats 400000 in
theorem rleft_call (h : Rf w r a c f u e) (n : Nat) (hn : u + n = 8 * f.length) :
    Calls Try.prog 21 #[.pointer (some ⟨r, 0, none⟩)] w fun x w' => x = .returned (.int .i64 n) ∧ Below w.heap.size w w' := by
  have h0 := h.c0
  have h1 := h.c1
  have hs := h.small
  have hl := h.le
  obtain ⟨m, hm⟩ : ∃ m, m = f.length := ⟨_, rfl⟩
  rw [← hm] at h0 hs hl hn
  clear h hm
  go_enter Try.func21, Try.ntmps21
  go_wp2
  go_quiet (fail)
  go_wp2
  go_ret
  exact ⟨congrArg (fun x => Ending.returned (.int .i64 x)) (by omega), below_drewN (Below.refl _ _) _⟩

set_option maxHeartbeats 1000000 in
theorem rpeek_no (h : Rf w r a c f u e) (wd : Int) (hw : ¬ (0 ≤ wd ∧ wd ≤ 32 ∧ (u : Int) + wd ≤ 8 * (f.length : Int))) :
    Calls Try.prog 14 #[.pointer (some ⟨r, 0, none⟩), .int .i64 wd] w fun x w' => x = .returned (.tuple #[.int .u32 0, .bool false]) ∧ Below w.heap.size w w' := by
  obtain ⟨n, hn⟩ : ∃ n, u + n = 8 * f.length := ⟨8 * f.length - u, by have := h.le; omega⟩
  have HL := Lib.hid (rleft_call h n hn)
  by_cases h0 : wd < 0
  · have d0 : decide (wd < 0) = true := by simpa using h0
    clear hw
    go_enter Try.func14, Try.ntmps14
    go_wp2_with fail
    go_ret2
    exact ⟨rfl, Below.refl _ _⟩
  · have d0 : decide (wd < 0) = false := by simpa using h0
    by_cases h1 : 32 < wd
    · have d1 : decide (32 < wd) = true := by simpa using h1
      clear hw
      go_enter Try.func14, Try.ntmps14
      go_wp2_with fail
      go_ret2
      exact ⟨rfl, Below.refl _ _⟩
    · have d1 : decide (32 < wd) = false := by simpa using h1
      have d2 : decide ((n : Int) < wd) = true := by simp; omega
      clear hw
      go_enter Try.func14, Try.ntmps14
      go_wp2_with (go_at_call 21; go_must (refine HL.out.mono ?_; rintro e w' ⟨rfl, hb⟩))
      go_ret2
      exact ⟨rfl, hb⟩

theorem mid_succ (L : List Int) (u k : Nat) (h : u + k < L.length) : valV ((L.drop u).take (k + 1)) = 2 * valV ((L.drop u).take k) + L.getD (u + k) 0 := by
  have hk : k < (L.drop u).length := by rw [List.length_drop]; omega
  rw [List.take_succ_eq_append_getElem hk, valV_snoc]
  congr 1
  rw [List.getElem_drop, getD_in _ _ h]

set_option maxHeartbeats 2000000 in
theorem rpeek_yes (h : Rf w r a c f u e) (wd : Nat) (hw : wd ≤ 32) (hu : u + wd ≤ 8 * f.length) :
    Calls Try.prog 14 #[.pointer (some ⟨r, 0, none⟩), .int .i64 wd] w fun x w' => x = .returned (.tuple #[.int .u32 (valV (((bitsB f).drop u).take wd)), .bool true]) ∧ Below w.heap.size w w' := by
  obtain ⟨n, hn⟩ : ∃ n, u + n = 8 * f.length := ⟨8 * f.length - u, by have := h.le; omega⟩
  have HL := Lib.hid (rleft_call h n hn)
  have d0 : decide ((wd : Int) < 0) = false := by simp
  have d1 : decide (32 < (wd : Int)) = false := by simp; omega
  have d2 : ¬ n < wd := by omega
  have hsm := h.small
  have H := Lib.hid h
  have HU := Lib.hid hu
  obtain ⟨m, hm⟩ : ∃ m, m = f.length := ⟨_, rfl⟩
  rw [← hm] at hsm hu
  have HM := Lib.hid hm
  clear h hn hm
  go_enter Try.func14, Try.ntmps14
  go_wp2_with fail
  refine HL.out.mono ?_
  rintro e w1 ⟨rfl, hb⟩
  have H1 := Lib.hid (H.out.below hb)
  have b1 := Lib.hid hb
  clear hb H HL
  go_wp2_with fail
  go_loopw [6, 7] (fun v i wr => ∃ j : Nat, j ≤ wd ∧ i = .int .i64 j ∧ v = .int .u32 (valV (((bitsB f).drop u).take j)) ∧ Below w.heap.size w wr ∧ Rf wr r a c f u e) (fun _ i _ => wd - (intOf i).toNat)
  case atStart => exact ⟨0, Nat.zero_le _, rfl, rfl, b1.out, H1.out⟩
  case round =>
    obtain ⟨j, hj, rfl, rfl, hb, hr⟩ := hrel
    have hvb := valV_bd _ ((bitsB_bin f).mid u j)
    rw [mid_length _ _ _ (by rw [bitsB_length, ← HM.out]; omega)] at hvb
    obtain ⟨V, hV⟩ : ∃ V, V = valV (((bitsB f).drop u).take j) := ⟨_, rfl⟩
    rw [← hV] at hvb ⊢
    obtain ⟨hv0, hv1⟩ := hvb
    have HVV := Lib.hid hV
    have HBB := Lib.hid hb
    clear hV hb
    by_cases hlt : j < wd
    · have hp : 2 ^ j ≤ 2 ^ 31 := Nat.pow_le_pow_right (by omega) (by omega)
      have hv2 : V < 2147483648 := by omega
      have hstep := mid_succ (bitsB f) u j (by rw [bitsB_length, ← HM.out]; omega)
      rw [← HVV.out] at hstep
      have hbit : (bitsB f).getD (u + j) 0 = 0 ∨ (bitsB f).getD (u + j) 0 = 1 := (bitsB_bin f).getD _
      obtain ⟨x, hx⟩ : ∃ x, x = (bitsB f).getD (u + j) 0 := ⟨_, rfl⟩
      rw [← hx] at hstep hbit
      have hbc := fun W (hS : Src W .u8 a f) => bit_call W a m c f HM.out.symm hS hr.byts (u + j) (by omega) (by omega)
      rw [Int.natCast_add, ← hx] at hbc
      have HC := Lib.hid hbc
      have h0 := hr.c0
      rw [← HM.out] at h0
      have h1 := hr.c1
      have hS := Lib.hid hr.row.src
      have hx0 : 0 ≤ x := by omega
      have hx1 : x ≤ 1 := by omega
      have HST := Lib.hid hstep
      have HR := Lib.hid hr
      clear hstep hx hbit hp hv1 hbc hr
      go_wp2_with fail
      have g1 : wr.drew.cell? ⟨r, 0, none⟩ = some (.slice a m c) := h0
      have g2 : wr.drew.cell? ⟨r, 1, none⟩ = some (.int .i64 u) := h1
      have hq : IntKind.i64.wrap ((u : Int) + (j : Int)) = (u : Int) + (j : Int) := IntWalk.i64_in _ (by omega)
      go_region_held3 (fun W => W.cell? ⟨r, 0, none⟩ = some (.slice a m c) ∧ W.cell? ⟨r, 1, none⟩ = some (.int .i64 u)) (first | exact ⟨g1, g2⟩) ((go_at_call 26; go_must (refine (HC.out wr.drew hS.out).mono ?_; rintro e w' ⟨rfl, rfl⟩)))
      have e1 : IntKind.u32.wrap (IntKind.u32.wrap (2 * V) + IntKind.u32.wrap x) = 2 * V + x := by
        rw [IntKind.wrap_u32', IntKind.wrap_u32', IntKind.wrap_u32']
        omega
      rw [e1]
      go_wp2
      go_roundw
      case rel => exact ⟨j + 1, by omega, by go_num, by rw [HST.out], HBB.out.drew, HR.out.drew⟩
      case measure => simp [intOf]; omega
    · obtain rfl : j = wd := by omega
      go_wp2_with fail
      go_ret2
      exact ⟨congrArg (fun x => Ending.returned (.tuple #[.int .u32 x, .bool true])) HVV.out, HBB.out⟩

theorem NowF.from {w w1 w2 : World} {u : Nat} (hb : Below w.heap.size w w1) (h : NowF w1 r a f u e w2) : NowF w r a f u e w2 := by
  obtain ⟨a', c', h1, h2, h3⟩ := h
  exact ⟨a', c', h1, (Ch.of_below hb).trans h2 (fun _ _ e => e), fun g e => (h3 g e).imp id (Nat.le_trans hb.size)⟩
theorem NowF.stays {w w1 : World} (hb : Below w.heap.size w w1) (h : Rf w r a c f u e) : NowF w r a f u e w1 := ⟨a, c, h.below hb, Ch.of_below hb, fun g e => .inl e⟩

theorem rtake_no (h : Rf w r a c f u e) (wd : Int) (hw : ¬ (0 ≤ wd ∧ wd ≤ 32 ∧ (u : Int) + wd ≤ 8 * (f.length : Int))) :
    Calls Try.prog 16 #[.pointer (some ⟨r, 0, none⟩), .int .i64 wd] w fun x w' => x = .returned (.tuple #[.int .u32 0, .bool false]) ∧ Below w.heap.size w w' := by
  have HP := Lib.hid (rpeek_no h wd hw)
  clear h hw
  go_enter Try.func16, Try.ntmps16
  go_wp2_with fail
  refine HP.out.mono ?_
  rintro e w1 ⟨rfl, hb⟩
  go_wp2
  go_ret2
  exact ⟨rfl, hb⟩
set_option maxHeartbeats 400000 in
theorem rtake_yes (h : Rf w r a c f u e) (wd : Nat) (hw : wd ≤ 32) (hu : u + wd ≤ 8 * f.length) :
    Calls Try.prog 16 #[.pointer (some ⟨r, 0, none⟩), .int .i64 wd] w fun x w' => x = .returned (.tuple #[.int .u32 (valV (((bitsB f).drop u).take wd)), .bool true]) ∧ NowF w r a f (u + wd) e w' := by
  have HP := Lib.hid (rpeek_yes h wd hw hu)
  obtain ⟨V, hV⟩ : ∃ V, V = valV (((bitsB f).drop u).take wd) := ⟨_, rfl⟩
  rw [← hV] at HP ⊢
  have hs := h.small
  have hul : u + wd ≤ 8000032 := by omega
  have H := Lib.hid h
  have HU := Lib.hid hu
  clear h hV hs
  go_enter Try.func16, Try.ntmps16
  go_wp2_with fail
  refine HP.out.mono ?_
  rintro e w1 ⟨rfl, hb⟩
  have H1 := Lib.hid (H.out.below hb)
  have h1 := H1.out.c1
  have hf1 := H1.out.fz 1
  have B1 := Lib.hid hb
  clear hb H HP
  go_wp2
  go_ret2
  exact ⟨rfl, (H1.out.used (u + wd) HU.out _ (by omega)).from B1.out⟩

theorem ralign_at (h : Rf w r a c f u e) (h8 : u % 8 = 0) :
    Calls Try.prog 18 #[.pointer (some ⟨r, 0, none⟩)] w fun x w' => x = .returned (.tuple #[.int .u32 0, .int .i64 0]) ∧ w = w' := by
  have h1 := h.c1
  have hs := h.small
  have hl := h.le
  have d0 : ((u : Int) % 8 == 0) = true := by simp; omega
  clear h
  go_enter Try.func18, Try.ntmps18
  go_wp2_with fail
  go_ret2
  exact ⟨rfl, rfl⟩
set_option maxHeartbeats 400000 in
theorem ralign_in (h : Rf w r a c f u e) (n : Nat) (hn : u % 8 + n = 8) (h8 : u % 8 ≠ 0) :
    Calls Try.prog 18 #[.pointer (some ⟨r, 0, none⟩)] w fun x w' => x = .returned (.tuple #[.int .u32 (valV (((bitsB f).drop u).take n)), .int .i64 n]) ∧ NowF w r a f (u + n) e w' := by
  have h1 := h.c1
  have hs := h.small
  have hl := h.le
  have HT := Lib.hid (rtake_yes h n (by omega) (by have := h.le; omega))
  obtain ⟨V, hV⟩ : ∃ V, V = valV (((bitsB f).drop u).take n) := ⟨_, rfl⟩
  rw [← hV] at HT ⊢
  have d0 : ((u : Int) % 8 == 0) = false := by simp; omega
  have e8 : 8 - (u : Int) % 8 = (n : Int) := by omega
  clear h hV
  go_enter Try.func18, Try.ntmps18
  go_wp2_with fail
  refine HT.out.mono ?_
  rintro e w2 ⟨rfl, hr⟩
  have HR := Lib.hid hr
  clear hr HT
  go_wp2
  go_ret2
  exact ⟨rfl, HR.out⟩
end
end Go.Proofs.Ytjbbbojbjholfaa
