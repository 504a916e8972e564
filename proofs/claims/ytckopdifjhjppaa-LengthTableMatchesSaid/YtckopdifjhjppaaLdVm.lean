/- Package lengthtable: which states are valid. -/
import Derived.Test.YtckopdifjhjppaaLdK
import Derived.Test.YtckopdifjhjppaaLtH
set_option linter.unusedVariables false
set_option linter.unusedSimpArgs false
namespace Go.Proofs.Ytckopdifjhjppaa
open Go.RowKit

/-! Which states are valid, as the package finds it. -/
noncomputable def vD (c : TS) : Bool := if 0 ≤ c.t ∧ c.t < 4 then (if 0 ≤ c.n ∧ c.n < 2 ^ c.t.toNat then decide (c = ⟨z0.L, 0, c.t, c.n, 0⟩) else false) else if c.y = 258 then (if tableV c.L then decide (c = dnS c.L) else false) else if c.t = 4 ∨ c.t = 5 then (if knB c.L c.y then decide (OnP c) else false) else false
theorem gl_all_zero {L : List Int} (h : L.length = 258) (hz : ∀ s : Nat, gl L s = 0) : L = z0.L := by
  rw [← Lk_same h (k := 0) (by omega) (fun s _ => hz s), Lk_zero]
theorem gl_out {L : List Int} (h : L.length = 258) (s : Nat) (hs : 258 ≤ s) : gl L s = 0 := by
  unfold gl
  rw [List.getD_eq_getElem?_getD, List.getElem?_eq_none (by omega)]
  rfl
theorem vD_of {f : Int} {k : Nat} {c : TS} (h : Rch tableV f k c) : vD c = true := by
  have hy := h.y0
  have hn := h.n0
  have ht := h.t0
  unfold vD
  by_cases h3 : 0 ≤ c.t ∧ c.t < 4
  · rw [if_pos h3]
    obtain ⟨l1, l2, l3, _⟩ := h.low (by omega)
    rw [if_pos ⟨hn.1, l3⟩]
    refine decide_eq_true (TS.ext' ?_ l1 rfl rfl l2)
    exact gl_all_zero h.len (fun s => h.new s (by omega))
  · rw [if_neg h3]
    have h4 : 4 ≤ c.t := by omega
    have hf := h.f0 h4
    have hw := h.way h4
    by_cases h258 : c.y = 258
    · rw [if_pos h258]
      obtain ⟨t4, a0, hT⟩ := h.fin h258
      rw [if_pos hT]
      refine decide_eq_true (TS.ext' rfl h258 t4 ?_ a0)
      have e : c.y.toNat = 257 + 1 := by omega
      rw [e] at hw
      have : c.n = gl c.L 257 := by
        rcases hw with ⟨_, h⟩ | ⟨h, _⟩ | ⟨h, _⟩
        · exact h
        · omega
        · omega
      exact this
    · rw [if_neg h258, if_pos (by omega)]
      have hk : knB c.L c.y = true := by
        rw [knB_iff]
        refine ⟨hy.1, by omega, fun s hs => ⟨?_, fun e => h.new s e⟩⟩
        by_cases e : (s : Int) < c.y
        · exact (h.old s e).2
        · rw [h.new s (by omega)]; decide
      rw [if_pos hk]
      refine decide_eq_true ⟨hn.1, hn.2, ?_⟩
      unfold lstS mstS
      by_cases h0 : 0 < c.y
      · rw [if_pos h0, if_pos h0]
        obtain ⟨s, hs⟩ : ∃ s, c.y.toNat = s + 1 := ⟨c.y.toNat - 1, by omega⟩
        rw [hs] at hw ⊢
        have e : pv f c.L (s + 1) = gl c.L (s + 1 - 1) := rfl
        rw [e] at hw
        omega
      · rw [if_neg h0, if_neg h0]
        have hs : c.y.toNat = 0 := by omega
        rw [hs, pv_zero] at hw
        omega
theorem of_vD {c : TS} (hL : Lng c.L) (h : vD c = true) : ∃ f k, Rch tableV f k c ∧ Cnt f k c := by
  unfold vD at h
  by_cases h3 : 0 ≤ c.t ∧ c.t < 4
  · rw [if_pos h3] at h
    split at h
    · rename_i hn
      have he := of_decide_eq_true h
      have hp : (2 : Int) ^ c.t.toNat ≤ 8 := by
        have : c.t = 0 ∨ c.t = 1 ∨ c.t = 2 ∨ c.t = 3 := by omega
        rcases this with e | e | e | e <;> rw [e] <;> decide
      have e1 : c.y = 0 := by rw [he]
      have e2 : c.a = 0 := by rw [he]
      have e3 : c.L = z0.L := by rw [he]
      refine ⟨0, c.t.toNat, ⟨hL.1, by omega, by omega, by omega, fun _ => ⟨e1, e2, hn.2, by omega⟩, fun s hs => by omega, fun s _ => by rw [e3]; exact z0_gl s, fun e => by omega, fun e => by omega, fun e => by omega⟩, fun e => by omega⟩
    · cases h
  · rw [if_neg h3] at h
    by_cases h258 : c.y = 258
    · rw [if_pos h258] at h
      split at h
      · rename_i hT
        have he := of_decide_eq_true h
        have hs := table_small hL hT
        have e1 : c.t = 4 := by rw [he]; rfl
        have e2 : c.a = 0 := by rw [he]; rfl
        have e3 : c.n = gl c.L 257 := by
          have : c.n = (dnS c.L).n := congrArg TS.n he
          exact this
        have hy : c.y.toNat = 257 + 1 := by omega
        have hp : pv (gl c.L 0) c.L (257 + 1) = gl c.L 257 := rfl
        have hn := hs 257 (by omega)
        refine ⟨gl c.L 0, (4 + cst (gl c.L 0) c.L 258), ⟨hL.1, by omega, by omega, by omega, fun e => by omega, fun s h2 => hs s (by omega), fun s h2 => gl_out hL.1 s (by omega), fun _ => hs 0 (by omega), fun _ => .inl ⟨e2, by rw [hy, hp]; exact e3⟩, fun _ => ⟨e1, e2, hT⟩⟩, fun _ => ?_⟩
        rw [hy, hp, e3, e1, Int.sub_self]
        simp
      · cases h
    · rw [if_neg h258] at h
      split at h
      · rename_i h45
        split at h
        · rename_i hk
          have hk2 := (knB_iff _ _).1 hk
          obtain ⟨o1, o2, o3⟩ := of_decide_eq_true h
          obtain ⟨k1, k2, k3⟩ := hk2
          unfold lstS mstS at o3
          have hsm : ∀ s : Nat, 0 ≤ gl c.L s ∧ gl c.L s ≤ 15 := fun s => by
            by_cases e : s < 258
            · exact ⟨(gl_bd hL s).1, (k3 s e).1⟩
            · rw [gl_out hL.1 s (by omega)]; decide
          have key : ∃ f : Int, 0 ≤ f ∧ f ≤ 15 ∧ (c.a = 0 ∧ c.n = pv f c.L c.y.toNat ∨ c.a = 1 ∧ pv f c.L c.y.toNat < c.n ∨ c.a = 2 ∧ c.n < pv f c.L c.y.toNat) := by
            by_cases h0 : 0 < c.y
            · rw [if_pos h0, if_pos h0] at o3
              obtain ⟨s, hs⟩ : ∃ s, c.y.toNat = s + 1 := ⟨c.y.toNat - 1, by omega⟩
              rw [hs] at o3 ⊢
              refine ⟨gl c.L 0, (hsm 0).1, (hsm 0).2, ?_⟩
              show c.a = 0 ∧ c.n = gl c.L (s + 1 - 1) ∨ c.a = 1 ∧ gl c.L (s + 1 - 1) < c.n ∨ c.a = 2 ∧ c.n < gl c.L (s + 1 - 1)
              omega
            · rw [if_neg h0, if_neg h0] at o3
              have hs : c.y.toNat = 0 := by omega
              rw [hs]
              refine ⟨if c.a = 1 then c.n - 1 else if c.a = 2 then c.n + 1 else c.n, ?_⟩
              simp only [pv_zero]
              by_cases a1 : c.a = 1
              · rw [if_pos a1]; omega
              · rw [if_neg a1]
                by_cases a2 : c.a = 2
                · rw [if_pos a2]; omega
                · rw [if_neg a2]; omega
          obtain ⟨f, f1, f2, f3⟩ := key
          refine ⟨f, (4 + cst f c.L c.y.toNat + 2 * (c.n - pv f c.L c.y.toNat).natAbs + (c.t - 4).toNat), ⟨hL.1, by omega, ⟨o1, o2⟩, by omega, fun e => by omega, fun s _ => hsm s, fun s h2 => ?_, fun _ => ⟨f1, f2⟩, fun _ => f3, fun e => absurd e h258⟩, fun _ => ?_⟩
          · by_cases e : s < 258
            · exact (k3 s e).2 h2
            · exact gl_out hL.1 s (by omega)
          · have : ((c.t - 4).toNat : Int) = c.t - 4 := by omega
            omega
        · cases h
      · cases h
theorem vD_eq {c : TS} (hL : Lng c.L) : vD c = validS tableV c := by
  rw [Bool.eq_iff_iff, valid_iff]
  exact ⟨of_vD hL, fun ⟨f, k, h, _⟩ => vD_of h⟩
theorem yieldsIf_build {P : Program} {ops : Array Oper} {S : World → Prop} {op : Oper} {a : Act} (hw : Region.wanted op (yielded ops a.tmps) = true) (t : TypeId) (parts : Array (Nat × Operand)) (ho : op.op = .build t parts)
    (vals : Array (Nat × Value)) (v : Value) (hr : ∀ W, (Instr.build t vals).run P W = .ok v W) (hv : (parts.toList.map fun (i, x) => (i, a.eval x)) = vals.toList) : YieldsIf P ops S op v a := by
  refine .inl ⟨hw, fun w _ => ?_⟩
  unfold execOp
  simp only [ho, Sem.run_bind]
  have hv2 : (parts.map fun (i, x) => (i, a.eval x)) = vals := by
    apply Array.toList_inj.1
    rw [Array.toList_map]
    exact hv
  rw [hv2, hr w]
  rfl
theorem dnS_tst {l : List Int} (h : Lng l) : Tst (dnS l) := ⟨h, show (Lit.int .i64 258).wf = true by decide, show (Lit.int .i64 4).wf = true by decide, WalkArith.wf_i64 ⟨by have := h.bd 257; show _ ≤ l.getD 257 0; omega, by have := h.bd 257; show l.getD 257 0 ≤ _; omega⟩, show (Lit.int .i64 0).wf = true by decide⟩

end Go.Proofs.Ytckopdifjhjppaa
