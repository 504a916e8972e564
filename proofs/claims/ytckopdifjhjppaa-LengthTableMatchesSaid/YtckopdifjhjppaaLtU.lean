/- The reference's Valid. -/
import Derived.Test.YtckopdifjhjppaaLtR
set_option linter.unusedVariables false
set_option linter.unusedSimpArgs false
namespace Go.Proofs.Ytckopdifjhjppaa
open Go.RowKit

/-- Reaching for a low state: j bits are left. -/
def Lw (n : Int) (t j : Nat) (d : TS) : Prop := d.y = 0 ∧ d.t + j = t ∧ (∃ f k, Rch tableV f k d ∧ Cnt f k d) ∧ runS tableV z0 (lowV n t) = runS tableV d (lowV n j)
theorem Lw.start (n : Int) (t : Nat) : Lw n t t z0 := ⟨rfl, by show (0 : Int) + t = t; omega, ⟨0, 0, Rch.zero 0, fun e => absurd e (by show ¬ (4 : Int) ≤ 0; decide)⟩, rfl⟩
theorem Lw.next {n : Int} {t j : Nat} {d : TS} (h : Lw n t (j + 1) d) (ht : t ≤ 3) : Lw n t j (wayS d (n / 2 ^ j % 2)) := by
  obtain ⟨h1, h2, ⟨f, k, r, s⟩, h4⟩ := h
  have hb : n / 2 ^ j % 2 = 0 ∨ n / 2 ^ j % 2 = 1 := by omega
  have h0 := r.t0
  have hw : wayB tableV d (n / 2 ^ j % 2) = true := by
    unfold wayB
    rw [if_neg (by omega), if_pos (by omega)]
  have hs : wayS d (n / 2 ^ j % 2) = { d with n := 2 * d.n + n / 2 ^ j % 2, t := d.t + 1 } := by
    unfold wayS
    rw [if_neg (by omega), if_pos (by omega)]
  obtain ⟨r2, s2⟩ := r.step s (by omega) hb hw
  refine ⟨by rw [hs]; exact h1, by rw [hs]; show d.t + 1 + (j : Int) = t; omega, ⟨_, _, r2, s2⟩, ?_⟩
  rw [h4, lowV, run_one tableV d _ (by omega) hw]
/-- The two boxes: the state that is asked, the one that is reached. -/
structure Vb (w : World) (c d : TS) (wr : World) : Prop where
  arg : wr.heap[w.heap.size]? = some (.cells (tg c) 25 (0, 0))
  got : wr.heap[w.heap.size + 1]? = some (.cells (tg d) 25 (0, 0))
  bel : Below w.heap.size w wr
theorem Vb.start (w : World) (c : TS) : Vb w c z0 ((w.alloc (.cells (tg c) 25)).alloc (.cells (tg z0) 25)) := ⟨heap_alloc2_old w _ _, heap_alloc2_new w _ _, ((Below.refl _ _).alloc (Nat.le_refl _) _).alloc (by simp) _⟩
theorem Vb.on {w wr w' : World} {c d : TS} (h : Vb w c d wr) (hb : Below wr.heap.size wr w') : Vb w c d w' := ⟨heap_on hb h.arg, heap_on hb h.got, h.bel.trans (hb.mono h.bel.size)⟩
theorem Vb.put {w wr : World} {c d : TS} (h : Vb w c d wr) (d2 : TS) : Vb w c d2 (wr.setRow (w.heap.size + 1) (tg d2)) := ⟨(setRow_other _ _ _ _ (by omega)).trans h.arg, setRow_heap _ _ _ _ _ _ h.got, h.bel.setRow (by omega) _⟩

set_option maxRecDepth 100000 in
set_option maxHeartbeats 2000000 in
theorem rvalid_low (c : TS) (hT : Tst c) (hcase : (c.n < 0 ∨ 15 < c.n ∨ c.y < 0 ∨ 258 < c.y) ∨ 0 ≤ c.t ∧ c.t < 4) (w : World) :
    Calls Try.prog 14 #[.agg (tg c)] w fun e w' => e = .returned (.bool (validS tableV c)) ∧ Below w.heap.size w w' := by
  have HDEF : Unit → validS tableV c = if c.n < 0 ∨ 15 < c.n ∨ c.y < 0 ∨ 258 < c.y then false else if 0 ≤ c.t ∧ c.t < 4 then decide (runS tableV z0 (lowV c.n c.t.toNat) = some c) else if ∃ s, s < c.y.toNat ∧ 15 < gl c.L s then false else if c.y = 0 ∧ (fstS c < 0 ∨ 15 < fstS c) then false else decide (runS tableV z0 (bitsTo c) = some c) := fun _ => rfl
  generalize validS tableV c = X at HDEF ⊢
  have hcL := hT.lng.1
  have hz := tstZ
  have hny := bounds_i64 hT.n
  have hyy := bounds_i64 hT.y
  have hty := bounds_i64 hT.t
  go_enter Try.func14, Try.ntmps14
  go_upto_region 1 with fail
  have ha := heap_alloc_last w (.cells (tg c) 25)
  have hb := (Below.refl w.heap.size w).alloc (Nat.le_refl _) (.cells (tg c) 25)
  have HV0 := Lib.hid (Vb.start w c)
  obtain ⟨w1, hw1⟩ : ∃ w1, w1 = w.alloc (.cells (tg c) 25) := ⟨_, rfl⟩
  rw [← hw1] at ha hb HV0 ⊢
  have hsz : w1.heap.size = w.heap.size + 1 := by rw [hw1]; simp
  clear hw1
  obtain ⟨cy, ct, cn, ca⟩ := tg_cells ha hcL
  have HB := Lib.hid hb
  have HSZ := Lib.hid hsz
  clear hb hsz
  by_cases hout : c.n < 0 ∨ 15 < c.n ∨ c.y < 0 ∨ 258 < c.y
  · have HX := Lib.hid (show X = false by rw [HDEF (), if_pos hout])
    clear HDEF
    by_cases h1 : c.n < 0
    · have d1 : decide (c.n < 0) = true := decide_eq_true h1
      go_wp2_with fail
      go_ret
      exact ⟨by rw [HX.out]; rfl, HB.out⟩
    · have d1 : decide (c.n < 0) = false := decide_eq_false h1
      by_cases h2 : 15 < c.n
      · have d2 : decide (15 < c.n) = true := decide_eq_true h2
        go_wp2_with fail
        go_ret
        exact ⟨by rw [HX.out]; rfl, HB.out⟩
      · have d2 : decide (15 < c.n) = false := decide_eq_false h2
        by_cases h3 : c.y < 0
        · have d3 : decide (c.y < 0) = true := decide_eq_true h3
          go_wp2_with fail
          go_ret
          exact ⟨by rw [HX.out]; rfl, HB.out⟩
        · have d3 : decide (c.y < 0) = false := decide_eq_false h3
          have d4 : decide (258 < c.y) = true := decide_eq_true (by omega)
          go_wp2_with fail
          go_ret
          exact ⟨by rw [HX.out]; rfl, HB.out⟩
  · have HDEF2 : Unit → X = if 0 ≤ c.t ∧ c.t < 4 then decide (runS tableV z0 (lowV c.n c.t.toNat) = some c) else if ∃ s, s < c.y.toNat ∧ 15 < gl c.L s then false else if c.y = 0 ∧ (fstS c < 0 ∨ 15 < fstS c) then false else decide (runS tableV z0 (bitsTo c) = some c) := fun _ => by rw [HDEF (), if_neg hout]
    have hn : 0 ≤ c.n ∧ c.n ≤ 15 := by omega
    have hy : 0 ≤ c.y ∧ c.y ≤ 258 := by omega
    have d1 : decide (c.n < 0) = false := decide_eq_false (by omega)
    have d2 : decide (15 < c.n) = false := decide_eq_false (by omega)
    have d3 : decide (c.y < 0) = false := decide_eq_false (by omega)
    have d4 : decide (258 < c.y) = false := decide_eq_false (by omega)
    have hout0 := hout
    clear HDEF hout
    go_upto_region 4 with fail
    rw [HSZ.out]
    replace HV0 := HV0
    clear d1 d2 d3 d4 ha hz
    generalize w1.alloc (.cells (tg z0) 25) = w2 at HV0 ⊢
    obtain ⟨cy, ct, cn, ca⟩ := tg_cells HV0.out.arg hcL
    by_cases hlow : 0 ≤ c.t ∧ c.t < 4
    · clear hcase hout0
      have HX := Lib.hid (show Unit → X = decide (runS tableV z0 (lowV c.n c.t.toNat) = some c) from fun _ => by rw [HDEF2 (), if_pos hlow])
      obtain ⟨t, htn⟩ : ∃ t : Nat, c.t = t := ⟨c.t.toNat, by omega⟩
      have ht3 : t ≤ 3 := by omega
      rw [htn, Int.toNat_natCast] at HX
      rw [htn] at ct
      have HTN := Lib.hid htn
      have hd4 : (decide ((t : Int) < 4)) = true := decide_eq_true (by omega)
      have hd5 : (decide (t < 4)) = true := decide_eq_true (by omega)
      clear HDEF2 hlow htn hty
      go_upto_region 6 with fail
      go_loopw [4] (fun i wr => ∃ (j : Nat) (d : TS), j ≤ t ∧ i = .int .i64 ((j : Int) - 1) ∧ Lw c.n t j d ∧ Vb w c d wr) (fun i _ => (intOf i + 1).toNat)
      case atStart => exact ⟨t, z0, Nat.le_refl _, rfl, Lw.start _ _, HV0.out⟩
      case round =>
        obtain ⟨j, d, hj, rfl, hlw, hvb⟩ := hrel
        have HLW := Lib.hid hlw
        have HVB := Lib.hid hvb
        clear hlw hvb
        cases j with
        | succ i =>
          have hi : (((i + 1 : Nat) : Int) - 1) = (i : Int) := by omega
          rw [hi]
          clear hi
          obtain ⟨hdy, _, ⟨f, k, r, _⟩, _⟩ := HLW.out
          have hbb : c.n / 2 ^ i % 2 = 0 ∨ c.n / 2 ^ i % 2 = 1 := by omega
          have hdl := r.len
          have HWC := Lib.hid (fun W => way_call d f k r (by omega) _ hbb W)
          have HNX := Lib.hid (HLW.out.next ht3)
          have hDl : (wayS d (c.n / 2 ^ i % 2)).L.length = 258 := by rw [wayS_len]; exact hdl
          have hi3 : i ≤ 3 := by omega
          have hq0 : 0 ≤ c.n / 2 ^ i := Int.ediv_nonneg hn.1 (Int.le_of_lt (Int.pow_pos (by decide)))
          have hgot := HVB.out.got
          have hbnd := hbb
          obtain ⟨_, _, cn2, _⟩ := tg_cells HVB.out.arg hcL
          have hbnn : 0 ≤ c.n / 2 ^ i % 2 := by omega
          clear hbb r hdy
          go_wp2_with (first
            | (refine wpList_load_row rfl 25 _ rfl (w.heap.size + 1) rfl 25 (tg d) (0, 0) _ hgot Try.underlying25 rfl (tstIk hdl) ?_)
            | (with_reducible refine (HWC.out _).mono ?_
               rintro e w3 ⟨rfl, hb3⟩
               have hg3 := heap_on hb3 hgot)
            | (refine wpList_store_row rfl 25 _ _ rfl (w.heap.size + 1) (tg (wayS d (c.n / 2 ^ i % 2))) rfl rfl 25 (tg d) hg3 (tstIk hDl) (by rw [tg_size hdl, tg_size hDl]) (tg_all _) ?_))
          exact ⟨⟨i, _, by omega, rfl, HNX.out, (HVB.out.on hb3).put _⟩, by simp [intOf]⟩
        | zero =>
          have hgot := HVB.out.got
          have harg := HVB.out.arg
          obtain ⟨_, _, ⟨f, k, r, _⟩, hrun⟩ := HLW.out
          have hTd := r.tst
          have HX2 := Lib.hid (show X = decide (d = c) by
            rw [HX.out (), hrun]
            show decide (some d = some c) = _
            rw [Bool.eq_iff_iff, decide_eq_true_eq, decide_eq_true_eq]
            constructor
            · intro e; injection e
            · intro e; rw [e])
          have heq := fun W => run_eqi_tst W hTd hT
          have hdl := r.len
          clear r hrun HX
          generalize decide (d = c) = D at heq HX2
          go_wp2_with (first
            | (refine wpList_load_row rfl 25 _ rfl (w.heap.size + 1) rfl 25 (tg d) (0, 0) _ hgot Try.underlying25 rfl (tstIk hdl) ?_)
            | (refine wpList_load_row rfl 25 _ rfl w.heap.size rfl 25 (tg c) (0, 0) _ harg Try.underlying25 rfl (tstIk hcL) ?_))
          go_ret
          exact ⟨by rw [HX2.out]; rfl, HVB.out.bel⟩
    · exact absurd hcase (fun e => e.elim hout0 hlow)
end Go.Proofs.Ytckopdifjhjppaa
