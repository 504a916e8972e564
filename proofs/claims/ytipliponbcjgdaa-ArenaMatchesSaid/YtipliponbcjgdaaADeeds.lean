/- Operations on an arena that came in, read as a list; winepresslaw01.small. -/
import Derived.Test.YtipliponbcjgdaaList
import Derived.Test.YtipliponbcjgdaaRef01d
set_option linter.unusedVariables false
set_option linter.unusedSimpArgs false
namespace Go.Proofs.Ytipliponbcjgdaa
open Go.RowKit Go.ChangeShapes Go.WideShapes Go.Deep

/-- An operation: what, a number, a span, a word, bytes. -/
structure ADeed where
  dov : Int
  nv : Int
  sa : Int
  sn : Int
  v : Int
  ba : Option Addr
  bl : Nat
  bc : Nat
  bs : List Int
def ADeed.cells (d : ADeed) : List Value := [.int .i64 d.dov, .int .i64 d.nv, .int .i64 d.sa, .int .i64 d.sn, .int .u32 d.v, .slice d.ba d.bl d.bc]
structure OkA (w : World) (d : ADeed) : Prop where
  dov : -9223372036854775808 ≤ d.dov ∧ d.dov ≤ 9223372036854775807
  nv : -9223372036854775808 ≤ d.nv ∧ d.nv ≤ 9223372036854775807
  sa : -9223372036854775808 ≤ d.sa ∧ d.sa ≤ 9223372036854775807
  sn : -9223372036854775808 ≤ d.sn ∧ d.sn ≤ 9223372036854775807
  v : 0 ≤ d.v ∧ d.v ≤ 4294967295
  len : d.bs.length = d.bl
  src : Src w .u8 d.ba d.bs
  byts : Byts d.bs
  lc : d.bl ≤ d.bc
  cm : d.bc ≤ maxLen
theorem OkA.below {w w' : World} {d : ADeed} (h : OkA w d) (hb : Below w.heap.size w w') : OkA w' d := { h with src := h.src.below hb }
/-- Operations in memory. -/
def ASrc (w : World) (sp : Option Addr) (D : List ADeed) : Prop := D = [] ∨ ∃ g o, sp = some ⟨g, o, none⟩ ∧ ∀ j d, D[j]? = some d → ∀ i v, d.cells[i]? = some v → w.cell? ⟨g, o + j * 6 + i, none⟩ = some v
theorem ASrc.below {w w' : World} {sp : Option Addr} {D : List ADeed} (h : ASrc w sp D) (hb : Below w.heap.size w w') : ASrc w' sp D := by
  rcases h with h | ⟨g, o, hx, hc⟩
  · exact .inl h
  · exact .inr ⟨g, o, hx, fun j d hj i v hv => (hb.cell (World.block_lt_of_cell? w _ (hc j d hj i v hv))).trans (hc j d hj i v hv)⟩

section
variable {H : Type} {enc : TypeId × Value → H} {w : World} {base : Nat} {spare : Nat → Bool} {held : Bool}
theorem open_adeed {n : Nat} {cs : List Value} {x : DataW H × List MemPlace} (hl : cs.length = 6) (h : DataW.trod enc Try.prog w base spare held n 38 cs = some x) :
    ∃ d : ADeed, cs = d.cells ∧ OkA w d := by
  obtain ⟨xs, m, _, _, _, hx, hf⟩ := DataW.trod_struct Try.underlying38 h
  have k0 : Try.prog.cellsOf 3 = 1 := by kernel_rfl
  have k1 : Try.prog.cellsOf 34 = 2 := by kernel_rfl
  have k2 : Try.prog.cellsOf 35 = 1 := by kernel_rfl
  have k3 : Try.prog.cellsOf 36 = 1 := by kernel_rfl
  match cs, hl with
  | [c0, c1, c2, c3, c4, c5], _ =>
    have h0 : DataW.trod enc Try.prog w base spare held m 3 ((([c0, c1, c2, c3, c4, c5] : List Value).drop 0).take (Try.prog.cellsOf 3)) = xs[0]? := hf 0 _ rfl
    have h1 : DataW.trod enc Try.prog w base spare held m 3 ((([c0, c1, c2, c3, c4, c5] : List Value).drop 1).take (Try.prog.cellsOf 3)) = xs[1]? := hf 1 _ rfl
    have h2 : DataW.trod enc Try.prog w base spare held m 34 ((([c0, c1, c2, c3, c4, c5] : List Value).drop 2).take (Try.prog.cellsOf 34)) = xs[2]? := hf 2 _ rfl
    have h3 : DataW.trod enc Try.prog w base spare held m 35 ((([c0, c1, c2, c3, c4, c5] : List Value).drop 4).take (Try.prog.cellsOf 35)) = xs[3]? := hf 3 _ rfl
    have h4 : DataW.trod enc Try.prog w base spare held m 36 ((([c0, c1, c2, c3, c4, c5] : List Value).drop 5).take (Try.prog.cellsOf 36)) = xs[4]? := hf 4 _ rfl
    rw [k0] at h0 h1
    rw [k1] at h2
    rw [k2] at h3
    rw [k3] at h4
    match xs, hx with
    | [y0, y1, y2, y3, y4], _ =>
      obtain ⟨v0, e0, _, w0⟩ := DataW.trod_int Try.underlying3 h0
      obtain ⟨v1, e1, _, w1⟩ := DataW.trod_int Try.underlying3 h1
      obtain ⟨v4, e4, _, w4⟩ := DataW.trod_int Try.underlying35 h3
      have h2' : DataW.trod enc Try.prog w base spare held m 34 [c2, c3] = some y2 := h2
      obtain ⟨zs, m2, _, _, _, hx2, hf2⟩ := DataW.trod_struct Try.underlying34 h2'
      have g0 : DataW.trod enc Try.prog w base spare held m2 3 ((([c2, c3] : List Value).drop 0).take (Try.prog.cellsOf 3)) = zs[0]? := hf2 0 _ rfl
      have g1 : DataW.trod enc Try.prog w base spare held m2 3 ((([c2, c3] : List Value).drop 1).take (Try.prog.cellsOf 3)) = zs[1]? := hf2 1 _ rfl
      rw [k0] at g0 g1
      match zs, hx2 with
      | [z0, z1], _ =>
        obtain ⟨v2, e2, _, w2⟩ := DataW.trod_int Try.underlying3 g0
        obtain ⟨v3, e3, _, w3⟩ := DataW.trod_int Try.underlying3 g1
        obtain ⟨a, len, cap, l, e5, q1, q2, q3, q4, q5⟩ := open_islice Try.underlying36 Try.underlying5 (by kernel_rfl) h4
        simp at e0 e1 e2 e3 e4 e5
        subst e0 e1 e2 e3 e4 e5
        exact ⟨⟨v0, v1, v2, v3, v4, a, len, cap, l⟩, rfl, bounds_i64 w0, bounds_i64 w1, bounds_i64 w2, bounds_i64 w3, bounds_u32 w4, q3, q4, Byts.of_wf q5, q1, q2⟩

theorem open_adeeds {fuel : Nat} {cs : List Value} {x : DataW H × List MemPlace} (h : DataW.trod enc Try.prog w base spare held fuel 22 cs = some x) :
    ∃ (a : Option Addr) (len cap : Nat) (D : List ADeed), cs = [.slice a len cap] ∧ len ≤ cap ∧ cap ≤ maxLen ∧ D.length = len ∧ ASrc w a D ∧ ∀ d ∈ D, OkA w d := by
  rcases open_slice Try.underlying22 h with ⟨h0, _⟩ | ⟨a, len, cap, m, n, D, Pl, h0, _, h1, h2, h3, _, h4⟩
  · exact ⟨none, 0, 0, [], h0, by omega, by unfold maxLen; omega, rfl, .inl rfl, by simp⟩
  · have hm : len ≤ m := by rw [h3]; split <;> omega
    have k3 : Try.prog.cellsOf 38 = 6 := by kernel_rfl
    obtain ⟨L, hL, hP⟩ := listChoice (P := fun i (d : ADeed) => (∀ j u, d.cells[j]? = some u → w.cell? ((a.add (i * 6)).add j) = some u) ∧ OkA w d) len (fun i hi => by
      obtain ⟨cs', hc, ht⟩ := h4 i (by omega)
      rw [k3] at hc
      obtain ⟨_, hcl, hat⟩ := World.cells?_some hc
      obtain ⟨d, e, hok⟩ := open_adeed hcl ht
      subst e
      refine ⟨d, fun j u hu => ?_, hok⟩
      have hj : j < 6 := by have := (List.getElem?_eq_some_iff.1 hu).1; simpa [ADeed.cells] using this
      rw [hat j hj]
      exact hu)
    refine ⟨some a, len, cap, L, h0, h1, h2, hL, ?_, fun d hd => ?_⟩
    · by_cases hl : len = 0
      · exact .inl (List.eq_nil_of_length_eq_zero (by omega))
      · obtain ⟨d0, hd0⟩ : ∃ d, L[0]? = some d := ⟨L[0]'(by omega), List.getElem?_eq_getElem _⟩
        have hz := (hP 0 d0 hd0).1 0 _ rfl
        have e0 : (a.add (0 * 6)).add 0 = a := by simp [Addr.add]
        rw [e0] at hz
        have ha := addr_none hz
        refine .inr ⟨a.block, a.off, by rw [← ha], fun j d hj i v hv => ?_⟩
        have hq := (hP j d hj).1 i v hv
        rw [ha, add_lit, add_lit] at hq
        exact hq
    · obtain ⟨i, hi, rfl⟩ := List.getElem_of_mem hd
      exact (hP i _ (List.getElem?_eq_getElem hi)).2
end

/-- Are operations few and short enough? -/
def smallA (D : List ADeed) : Bool := decide (D.length ≤ 60) && D.all (fun d => decide (d.bl ≤ 300))

set_option maxHeartbeats 1000000 in
theorem small_call (w : World) (sp : Option Addr) (n c : Nat) (D : List ADeed) (hl : D.length = n) (hs : ASrc w sp D) (hok : ∀ d ∈ D, OkA w d) (hn : n ≤ 9223372036854775807) :
    Calls Try.prog 4 #[.slice sp n c] w fun e w' => e = .returned (.bool (smallA D)) ∧ w = w' := by
  have HL := Lib.hid hl
  have HS := Lib.hid hs
  have HK := Lib.hid hok
  clear hl hs hok
  go_enter Try.func4, Try.ntmps4
  go_wp2_with fail
  go_loopw [3] (fun x wr => ∃ k : Nat, k ≤ n ∧ x = .int .i64 k ∧ (∀ d ∈ D.take k, d.bl ≤ 300) ∧ wr = w) (fun x _ => n - (intOf x).toNat)
  case atStart => exact ⟨0, Nat.zero_le _, rfl, by simp, rfl⟩
  case round =>
    obtain ⟨k, hk, rfl, hr, rfl⟩ := hrel
    have HR := Lib.hid hr
    clear hr
    by_cases hlt : k < n
    · obtain ⟨d, hd⟩ : ∃ d, D[k]? = some d := ⟨D[k]'(by rw [HL.out]; exact hlt), List.getElem?_eq_getElem _⟩
      rcases HS.out with rfl | ⟨g, o, rfl, hc⟩
      · simp at hd
      have c5 := hc k d hd 5 _ rfl
      have hb := (HK.out d (List.mem_of_getElem? hd))
      have hlc := hb.lc
      have hcm := hb.cm
      unfold maxLen at hcm
      have HD := Lib.hid hd
      clear hc hd hb
      by_cases hsm : d.bl ≤ 300
      · have d1 : decide ((300 : Int) < (d.bl : Int)) = false := by simp; omega
        go_wp2
        go_roundw
        case rel =>
          refine ⟨k + 1, by omega, by go_num, ?_, trivial⟩
          intro e he
          have hkl := (List.getElem?_eq_some_iff.1 HD.out)
          obtain ⟨hkl, rfl⟩ := hkl
          rw [List.take_succ_eq_append_getElem hkl, List.mem_append, List.mem_singleton] at he
          rcases he with he | rfl
          · exact HR.out e he
          · exact hsm
        case measure => simp [intOf]; omega
      · have d1 : decide ((300 : Int) < (d.bl : Int)) = true := by simp; omega
        have hf : smallA D = false := by
          unfold smallA
          rw [Bool.and_eq_false_iff]
          right
          rw [List.all_eq_false]
          exact ⟨d, List.mem_of_getElem? HD.out, by simpa using hsm⟩
        go_wp2
        go_ret
        exact ⟨by rw [hf]; rfl, rfl⟩
    · obtain rfl : k = n := by omega
      have ht : D.take k = D := List.take_of_length_le (Nat.le_of_eq HL.out)
      have hf : smallA D = decide ((k : Int) ≤ 60) := by
        unfold smallA
        rw [HL.out]
        have : D.all (fun d => decide (d.bl ≤ 300)) = true := by
          rw [List.all_eq_true]
          intro d hd
          have h3 := HR.out
          rw [ht] at h3
          simpa using h3 d hd
        rw [this, Bool.and_true, Bool.eq_iff_iff]
        simp only [decide_eq_true_eq]
        omega
      go_wp2
      go_ret
      exact ⟨by rw [hf]; rfl, rfl⟩
end Go.Proofs.Ytipliponbcjgdaa
