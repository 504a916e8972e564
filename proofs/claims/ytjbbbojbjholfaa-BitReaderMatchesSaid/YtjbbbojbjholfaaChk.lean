/- A slice of chunks that came in, read as a list; the reference's Great and Join. -/
import Derived.Test.YtjbbbojbjholfaaList
import Derived.Test.YtjbbbojbjholfaaFd
set_option linter.unusedVariables false
set_option linter.unusedSimpArgs false
namespace Go.Proofs.Ytjbbbojbjholfaa
open Go.RowKit Go.ChangeShapes Go.WideShapes Go.Deep

theorem CSrc.below {w w' : World} {sp : Option Addr} {C : List Chk} (h : CSrc w sp C) (hb : Below w.heap.size w w') : CSrc w' sp C := by
  rcases h with h | ⟨g, o, hx, hc⟩
  · exact .inl h
  · exact .inr ⟨g, o, hx, fun j d hj => (hb.cell (World.block_lt_of_cell? w _ (hc j d hj))).trans (hc j d hj)⟩

section
variable {H : Type} {enc : TypeId × Value → H} {w : World} {base : Nat} {spare : Nat → Bool} {held : Bool}
theorem open_chunks {fuel : Nat} {cs : List Value} {x : DataW H × List MemPlace} (h : DataW.trod enc Try.prog w base spare held fuel 41 cs = some x) :
    ∃ (a : Option Addr) (len cap : Nat) (D : List Chk), cs = [.slice a len cap] ∧ len ≤ cap ∧ cap ≤ maxLen ∧ D.length = len ∧ CSrc w a D ∧ ∀ d ∈ D, OkC w d := by
  rcases open_slice Try.underlying41 h with ⟨h0, _⟩ | ⟨a, len, cap, m, n, D, Pl, h0, _, h1, h2, h3, _, h4⟩
  · exact ⟨none, 0, 0, [], h0, by omega, by unfold maxLen; omega, rfl, .inl rfl, by simp⟩
  · have hm : len ≤ m := by rw [h3]; split <;> omega
    have k3 : Try.prog.cellsOf 28 = 1 := by kernel_rfl
    obtain ⟨L, hL, hP⟩ := listChoice (P := fun i (d : Chk) => w.cell? (a.add i) = some (.slice d.a d.len d.cap) ∧ OkC w d) len (fun i hi => by
      obtain ⟨cs', hc, ht⟩ := h4 i (by omega)
      rw [k3] at hc
      obtain ⟨_, hcl, hat⟩ := World.cells?_some hc
      obtain ⟨a', l', c', bs, e5, q1, q2, q3, q4, q5⟩ := open_islice Try.underlying28 Try.underlying5 (by kernel_rfl) ht
      subst e5
      refine ⟨⟨a', l', c', bs⟩, ?_, ⟨q3, q4, Byts.of_wf q5, q1, q2⟩⟩
      have := hat 0 (by omega)
      simpa [Addr.add] using this)
    refine ⟨some a, len, cap, L, h0, h1, h2, hL, ?_, fun d hd => ?_⟩
    · by_cases hl : len = 0
      · exact .inl (List.eq_nil_of_length_eq_zero (by omega))
      · obtain ⟨d0, hd0⟩ : ∃ d, L[0]? = some d := ⟨L[0]'(by omega), List.getElem?_eq_getElem _⟩
        have hz := (hP 0 d0 hd0).1
        have e0 : a.add 0 = a := by simp [Addr.add]
        rw [e0] at hz
        have ha := addr_none hz
        refine .inr ⟨a.block, a.off, by rw [← ha], fun j d hj => ?_⟩
        have hq := (hP j d hj).1
        rw [ha, add_lit] at hq
        exact hq
    · obtain ⟨i, hi, rfl⟩ := List.getElem_of_mem hd
      exact (hP i _ (List.getElem?_eq_getElem hi)).2
end

def GreatR (D : List Chk) (e : Ending) : Prop := ∃ b, e = .returned (.bool b) ∧ (b = false → D.length ≤ 80 ∧ (joinC D).length ≤ 3000)
set_option maxHeartbeats 1000000 in
theorem great_call (w : World) (sp : Option Addr) (n c : Nat) (D : List Chk) (hl : D.length = n) (hs : CSrc w sp D) (hok : ∀ d ∈ D, OkC w d) (hn : n ≤ 9223372036854775807) :
    Calls Try.prog 24 #[.slice sp n c] w fun e w' => GreatR D e ∧ w = w' := by
  have HL := Lib.hid hl
  have HS := Lib.hid hs
  have HK := Lib.hid hok
  clear hl hs hok
  go_enter Try.func24, Try.ntmps24
  go_wp2_with fail
  go_loopw [3, 4] (fun v x wr => ∃ k s : Nat, k ≤ n ∧ x = .int .i64 k ∧ v = .int .i64 s ∧ s ≤ 7000 ∧ (s ≤ 3000 → (joinC (D.take k)).length ≤ s) ∧ wr = w) (fun _ x _ => n - (intOf x).toNat)
  case atStart => exact ⟨0, 0, Nat.zero_le _, rfl, rfl, by omega, by simp [joinC], rfl⟩
  case round =>
    obtain ⟨k, s, hk, rfl, rfl, hs7, hr, rfl⟩ := hrel
    have HR := Lib.hid hr
    clear hr
    by_cases hgo : k < n ∧ k ≤ 80 ∧ s ≤ 3000
    · obtain ⟨hlt, h80, h30⟩ := hgo
      have e1 : decide ((k : Int) ≤ 80) = true := by simp; omega
      have e2 : decide ((s : Int) ≤ 3000) = true := by simp; omega
      obtain ⟨d, hd⟩ : ∃ d, D[k]? = some d := ⟨D[k]'(by rw [HL.out]; exact hlt), List.getElem?_eq_getElem _⟩
      rcases HS.out with rfl | ⟨g, o, rfl, hc⟩
      · simp at hd
      have hcd := hc k d hd
      have hok := HK.out d (List.mem_of_getElem? hd)
      have hlc := hok.lc
      have hcm := hok.cm
      have hdl := hok.len
      have hj := joinC_succ D k d hd
      unfold maxLen at hcm
      have HJ := Lib.hid hj
      have HDL := Lib.hid hdl
      clear hc hd hok hj hdl
      by_cases hsm : d.len ≤ 4000
      · have em : min (d.len : Int) 4000 = (d.len : Int) := by omega
        go_wp2_with fail
        go_roundw
        case rel =>
          refine ⟨k + 1, s + d.len, by omega, by go_num, by go_num, by omega, ?_, trivial⟩
          intro h3
          rw [HJ.out, List.length_append, HDL.out]
          have := HR.out h30
          omega
        case measure => simp [intOf]; omega
      · have em : min (d.len : Int) 4000 = 4000 := by omega
        go_wp2_with fail
        go_roundw
        case rel => exact ⟨k + 1, s + 4000, by omega, by go_num, by go_num, by omega, by omega, trivial⟩
        case measure => simp [intOf]; omega
    · by_cases hlt : k < n
      · by_cases h80 : k ≤ 80
        · have e1 : decide ((k : Int) ≤ 80) = true := by simp; omega
          have e2 : decide ((s : Int) ≤ 3000) = false := by simp; omega
          have e3 : decide (3000 < (s : Int)) = true := by simp; omega
          clear hgo
          go_wp2_with fail
          all_goals go_ret
          all_goals exact ⟨⟨_, rfl, fun h => by simp at h⟩, rfl⟩
        · have e1 : decide ((k : Int) ≤ 80) = false := by simp; omega
          have e3 : decide (80 < (n : Int)) = true := by simp; omega
          clear hgo
          go_wp2_with fail
          go_ret
          exact ⟨⟨_, rfl, fun h => by simp at h⟩, rfl⟩
      · obtain rfl : k = n := by omega
        have hrr := HR.out
        rw [List.take_of_length_le (by rw [HL.out]; exact Nat.le_refl _)] at hrr
        have HRR := Lib.hid hrr
        clear hgo hrr HR
        go_wp2_with fail
        · go_ret
          rename_i hle
          exact ⟨⟨_, rfl, fun h => by
            simp at h
            have := HRR.out
            have := HL.out
            exact ⟨by omega, by omega⟩⟩, rfl⟩
        · go_ret
          exact ⟨⟨_, rfl, fun h => by simp at h⟩, rfl⟩

set_option maxHeartbeats 1000000 in
theorem join_call (w : World) (sp : Option Addr) (n c : Nat) (D : List Chk) (hl : D.length = n) (hs : CSrc w sp D) (hok : ∀ d ∈ D, OkC w d) (hn : n ≤ 9223372036854775807) (hsm : (joinC D).length ≤ 3000) :
    Calls Try.prog 25 #[.slice sp n c] w fun e w' => ∃ a' c', e = .returned (.slice a' (joinC D).length c') ∧ WinS w' .u8 5 a' c' (joinC D) ∧ (∀ g, blk a' = some g → w.heap.size ≤ g) ∧ Below w.heap.size w w' := by
  have HL := Lib.hid hl
  have HS := Lib.hid hs
  have HK := Lib.hid hok
  clear hl hs hok
  go_enter Try.func25, Try.ntmps25
  go_wp2_with fail
  go_loopw [3, 4] (fun v x wr => ∃ k : Nat, k ≤ n ∧ x = .int .i64 k ∧ ∃ a1 c1, v = .slice a1 (joinC (D.take k)).length c1 ∧ WinS wr .u8 5 a1 c1 (joinC (D.take k)) ∧ (∀ g, blk a1 = some g → w.heap.size ≤ g) ∧ Below w.heap.size w wr) (fun _ x _ => n - (intOf x).toNat)
  case atStart => exact ⟨0, Nat.zero_le _, rfl, none, 0, rfl, WinS.nil _ _ _, by simp [blk], Below.refl _ _⟩
  case round =>
    obtain ⟨k, hk, rfl, a1, c1, rfl, hw, ha, hb⟩ := hrel
    by_cases hlt : k < n
    · obtain ⟨d, hd⟩ : ∃ d, D[k]? = some d := ⟨D[k]'(by rw [HL.out]; exact hlt), List.getElem?_eq_getElem _⟩
      have hcs := HS.out.below hb
      rcases hcs with rfl | ⟨g, o, rfl, hc⟩
      · simp at hd
      have hcd := hc k d hd
      have hok := (HK.out d (List.mem_of_getElem? hd)).below hb
      have hj := joinC_succ D k d hd
      have hjl := joinC_le D (k + 1)
      rw [hj, List.length_append] at hjl
      have hdl := hok.len
      have HJ := Lib.hid hj
      have HOK := Lib.hid hok
      obtain ⟨F, hF⟩ : ∃ F, F = joinC (D.take k) := ⟨_, rfl⟩
      rw [← hF] at hw hjl HJ ⊢
      have HW := Lib.hid hw
      have HA := Lib.hid ha
      have HB := Lib.hid hb
      have hsz := hb.size
      clear hF hc hd hok hj hw ha hb
      go_wp2_with (at_builtin; go_must (
        refine wpList_appendW rfl _ _ 28 rfl 5 .u8 1 sliceT byteI a1 c1 F F.length rfl rfl HW.out d.a d.len d.cap rfl d.bs HOK.out.len HOK.out.src (by unfold maxLen; omega) (by omega) ?_
        intro a2 c2 w2 hw2 hg2 ha2
        have HW2 := Lib.hid hw2
        have hb2 := Lib.hid (HB.out.grown hg2 hsz HA.out)
        have hA2 := Lib.hid (show ∀ g, blk a2 = some g → w.heap.size ≤ g from fun g e => by
          rcases ha2 with h1 | h1
          · exact HA.out g (by rw [← h1]; exact e)
          · rw [h1] at e
            injection e with e
            omega)
        clear hw2 hg2 ha2))
      go_roundw
      case rel => exact ⟨k + 1, by omega, by go_num, a2, c2, by rw [HJ.out, List.length_append, hdl], by rw [HJ.out]; exact HW2.out, hA2.out, hb2.out⟩
      case measure => simp [intOf]; omega
    · obtain rfl : k = n := by omega
      rw [List.take_of_length_le (by rw [HL.out]; exact Nat.le_refl _)] at hw ⊢
      have HW := Lib.hid hw
      have HA := Lib.hid ha
      have HB := Lib.hid hb
      clear hw ha hb
      go_wp2_with fail
      go_ret
      exact ⟨a1, c1, rfl, HW.out, HA.out, HB.out⟩
end Go.Proofs.Ytjbbbojbjholfaa
