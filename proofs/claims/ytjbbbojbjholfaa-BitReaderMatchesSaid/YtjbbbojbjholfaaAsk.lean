/- Operations on a reader that came in, read as a list; winepresslaw03.small. -/
import Derived.Test.YtjbbbojbjholfaaChk
import Derived.Test.YtjbbbojbjholfaaRq
set_option linter.unusedVariables false
set_option linter.unusedSimpArgs false
namespace Go.Proofs.Ytjbbbojbjholfaa
open Go.RowKit Go.ChangeShapes Go.WideShapes Go.Deep

/-- An operation: what, a width, a chunk. -/
structure AskD where
  dov : Int
  wdv : Int
  ck : Chk
def AskD.cells (d : AskD) : List Value := [.int .i64 d.dov, .int .i64 d.wdv, .slice d.ck.a d.ck.len d.ck.cap]
structure OkK (w : World) (d : AskD) : Prop where
  dov : -9223372036854775808 ≤ d.dov ∧ d.dov ≤ 9223372036854775807
  wdv : -9223372036854775808 ≤ d.wdv ∧ d.wdv ≤ 9223372036854775807
  ck : OkC w d.ck
theorem OkK.below {w w' : World} {d : AskD} (h : OkK w d) (hb : Below w.heap.size w w') : OkK w' d := ⟨h.dov, h.wdv, h.ck.below hb⟩
/-- Operations in memory. -/
def KSrc (w : World) (sp : Option Addr) (D : List AskD) : Prop := D = [] ∨ ∃ g o, sp = some ⟨g, o, none⟩ ∧ ∀ j d, D[j]? = some d → ∀ i v, d.cells[i]? = some v → w.cell? ⟨g, o + j * 3 + i, none⟩ = some v
theorem KSrc.below {w w' : World} {sp : Option Addr} {D : List AskD} (h : KSrc w sp D) (hb : Below w.heap.size w w') : KSrc w' sp D := by
  rcases h with h | ⟨g, o, hx, hc⟩
  · exact .inl h
  · exact .inr ⟨g, o, hx, fun j d hj i v hv => (hb.cell (World.block_lt_of_cell? w _ (hc j d hj i v hv))).trans (hc j d hj i v hv)⟩

section
variable {H : Type} {enc : TypeId × Value → H} {w : World} {base : Nat} {spare : Nat → Bool} {held : Bool}
theorem open_ask {n : Nat} {cs : List Value} {x : DataW H × List MemPlace} (hl : cs.length = 3) (h : DataW.trod enc Try.prog w base spare held n 32 cs = some x) :
    ∃ d : AskD, cs = d.cells ∧ OkK w d := by
  obtain ⟨xs, m, _, _, _, hx, hf⟩ := DataW.trod_struct Try.underlying32 h
  have k0 : Try.prog.cellsOf 3 = 1 := by kernel_rfl
  have k3 : Try.prog.cellsOf 28 = 1 := by kernel_rfl
  match cs, hl with
  | [c0, c1, c2], _ =>
    have h0 : DataW.trod enc Try.prog w base spare held m 3 ((([c0, c1, c2] : List Value).drop 0).take (Try.prog.cellsOf 3)) = xs[0]? := hf 0 _ rfl
    have h1 : DataW.trod enc Try.prog w base spare held m 3 ((([c0, c1, c2] : List Value).drop 1).take (Try.prog.cellsOf 3)) = xs[1]? := hf 1 _ rfl
    have h2 : DataW.trod enc Try.prog w base spare held m 28 ((([c0, c1, c2] : List Value).drop 2).take (Try.prog.cellsOf 28)) = xs[2]? := hf 2 _ rfl
    rw [k0] at h0 h1
    rw [k3] at h2
    match xs, hx with
    | [y0, y1, y2], _ =>
      obtain ⟨v0, e0, _, w0⟩ := DataW.trod_int Try.underlying3 h0
      obtain ⟨v1, e1, _, w1⟩ := DataW.trod_int Try.underlying3 h1
      obtain ⟨a, len, cap, l, e5, q1, q2, q3, q4, q5⟩ := open_islice Try.underlying28 Try.underlying5 (by kernel_rfl) h2
      simp at e0 e1 e5
      subst e0 e1 e5
      exact ⟨⟨v0, v1, ⟨a, len, cap, l⟩⟩, rfl, bounds_i64 w0, bounds_i64 w1, ⟨q3, q4, Byts.of_wf q5, q1, q2⟩⟩

theorem open_asks {fuel : Nat} {cs : List Value} {x : DataW H × List MemPlace} (h : DataW.trod enc Try.prog w base spare held fuel 22 cs = some x) :
    ∃ (a : Option Addr) (len cap : Nat) (D : List AskD), cs = [.slice a len cap] ∧ len ≤ cap ∧ cap ≤ maxLen ∧ D.length = len ∧ KSrc w a D ∧ ∀ d ∈ D, OkK w d := by
  rcases open_slice Try.underlying22 h with ⟨h0, _⟩ | ⟨a, len, cap, m, n, D, Pl, h0, _, h1, h2, h3, _, h4⟩
  · exact ⟨none, 0, 0, [], h0, by omega, by unfold maxLen; omega, rfl, .inl rfl, by simp⟩
  · have hm : len ≤ m := by rw [h3]; split <;> omega
    have k3 : Try.prog.cellsOf 32 = 3 := by kernel_rfl
    obtain ⟨L, hL, hP⟩ := listChoice (P := fun i (d : AskD) => (∀ j u, d.cells[j]? = some u → w.cell? ((a.add (i * 3)).add j) = some u) ∧ OkK w d) len (fun i hi => by
      obtain ⟨cs', hc, ht⟩ := h4 i (by omega)
      rw [k3] at hc
      obtain ⟨_, hcl, hat⟩ := World.cells?_some hc
      obtain ⟨d, e, hok⟩ := open_ask hcl ht
      subst e
      refine ⟨d, fun j u hu => ?_, hok⟩
      have hj : j < 3 := by have := (List.getElem?_eq_some_iff.1 hu).1; simpa [AskD.cells] using this
      rw [hat j hj]
      exact hu)
    refine ⟨some a, len, cap, L, h0, h1, h2, hL, ?_, fun d hd => ?_⟩
    · by_cases hl : len = 0
      · exact .inl (List.eq_nil_of_length_eq_zero (by omega))
      · obtain ⟨d0, hd0⟩ : ∃ d, L[0]? = some d := ⟨L[0]'(by omega), List.getElem?_eq_getElem _⟩
        have hz := (hP 0 d0 hd0).1 0 _ rfl
        have e0 : (a.add (0 * 3)).add 0 = a := by simp [Addr.add]
        rw [e0] at hz
        have ha := addr_none hz
        refine .inr ⟨a.block, a.off, by rw [← ha], fun j d hj i v hv => ?_⟩
        have hq := (hP j d hj).1 i v hv
        rw [ha, add_lit, add_lit] at hq
        exact hq
    · obtain ⟨i, hi, rfl⟩ := List.getElem_of_mem hd
      exact (hP i _ (List.getElem?_eq_getElem hi)).2
end

/-- All bytes of the operations' chunks. -/
def joinK (D : List AskD) : List Int := joinC (D.map (·.ck))
theorem joinK_succ (D : List AskD) (k : Nat) (d : AskD) (h : D[k]? = some d) : joinK (D.take (k + 1)) = joinK (D.take k) ++ d.ck.bs := by
  unfold joinK
  rw [List.map_take, List.map_take]
  exact joinC_succ (D.map (·.ck)) k d.ck (by simp [h])
theorem joinK_le (D : List AskD) (k : Nat) : (joinK (D.take k)).length ≤ (joinK D).length := by
  unfold joinK
  rw [List.map_take]
  exact joinC_le _ k

def SmallR (D : List AskD) (e : Ending) : Prop := ∃ b, e = .returned (.bool b) ∧ (b = true → D.length ≤ 100 ∧ (joinK D).length ≤ 3000)
set_option maxHeartbeats 1000000 in
theorem small_call (w : World) (sp : Option Addr) (n c : Nat) (D : List AskD) (hl : D.length = n) (hs : KSrc w sp D) (hok : ∀ d ∈ D, OkK w d) (hn : n ≤ 9223372036854775807) :
    Calls Try.prog 8 #[.slice sp n c] w fun e w' => SmallR D e ∧ w = w' := by
  have HL := Lib.hid hl
  have HS := Lib.hid hs
  have HK := Lib.hid hok
  clear hl hs hok
  go_enter Try.func8, Try.ntmps8
  go_wp2_with fail
  go_loopw [3, 4] (fun v x wr => ∃ k s : Nat, k ≤ n ∧ x = .int .i64 k ∧ v = .int .i64 s ∧ k ≤ 101 ∧ s ≤ 4000 * k ∧ (s ≤ 3000 → (joinK (D.take k)).length ≤ s) ∧ wr = w) (fun _ x _ => n - (intOf x).toNat)
  case atStart => exact ⟨0, 0, Nat.zero_le _, rfl, rfl, by omega, by omega, by simp [joinK, joinC], rfl⟩
  case round =>
    obtain ⟨k, s, hk, rfl, rfl, hk1, hs7, hr, rfl⟩ := hrel
    have HR := Lib.hid hr
    clear hr
    by_cases hgo : k < n ∧ k ≤ 100
    · obtain ⟨hlt, h80⟩ := hgo
      have e1 : decide ((k : Int) ≤ 100) = true := by simp; omega
      obtain ⟨d, hd⟩ : ∃ d, D[k]? = some d := ⟨D[k]'(by rw [HL.out]; exact hlt), List.getElem?_eq_getElem _⟩
      rcases HS.out with rfl | ⟨g, o, rfl, hc⟩
      · simp at hd
      have hcd := hc k d hd 2 _ rfl
      have hok := (HK.out d (List.mem_of_getElem? hd)).ck
      have hlc := hok.lc
      have hcm := hok.cm
      have hdl := hok.len
      have hj := joinK_succ D k d hd
      unfold maxLen at hcm
      have HJ := Lib.hid hj
      have HDL := Lib.hid hdl
      clear hc hd hok hj hdl
      by_cases hsm : d.ck.len ≤ 4000
      · go_wp2_with fail
        go_roundw
        case rel =>
          refine ⟨k + 1, s + d.ck.len, by omega, by go_num, by go_num, by omega, by omega, ?_, trivial⟩
          intro h3
          rw [HJ.out, List.length_append, HDL.out]
          have := HR.out (by omega)
          omega
        case measure => simp [intOf]; omega
      · go_wp2_with fail
        go_roundw
        case rel => exact ⟨k + 1, s + 4000, by omega, by go_num, by go_num, by omega, by omega, by omega, trivial⟩
        case measure => simp [intOf]; omega
    · by_cases hlt : k < n
      · have e1 : decide ((k : Int) ≤ 100) = false := by simp; omega
        have e3 : decide ((n : Int) ≤ 100) = false := by simp; omega
        clear hgo
        go_wp2_with fail
        all_goals go_ret
        all_goals exact ⟨⟨_, rfl, fun h => by simp at h⟩, rfl⟩
      · obtain rfl : k = n := by omega
        have hrr := HR.out
        rw [List.take_of_length_le (by rw [HL.out]; exact Nat.le_refl _)] at hrr
        have HRR := Lib.hid hrr
        clear hgo hrr HR
        go_wp2_with fail
        · go_ret
          exact ⟨⟨_, rfl, fun h => by
            simp at h
            have := HRR.out
            have := HL.out
            exact ⟨by omega, by omega⟩⟩, rfl⟩
        · go_ret
          exact ⟨⟨_, rfl, fun h => by simp at h⟩, rfl⟩
end Go.Proofs.Ytjbbbojbjholfaa
