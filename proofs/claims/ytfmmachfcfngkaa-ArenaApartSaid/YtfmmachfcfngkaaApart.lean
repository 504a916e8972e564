/- The walk over winepresslaw01.ArenaApart. -/
import Derived.Test.YtfmmachfcfngkaaWords
import Derived.Deep.DeepCutAuto
set_option linter.unusedVariables false
set_option linter.unusedSimpArgs false
namespace Go.Proofs.Ytfmmachfcfngkaa
open Go.RowKit

/-- A size, reduced to 0 to 100. -/
def clampS (x : Int) : Nat := (min (max x 0) 100).toNat
theorem clampS_le (x : Int) : clampS x ≤ 100 := by unfold clampS; omega
/-- The sum of the first k sizes. -/
def tot (l : List Int) : Nat → Nat
  | 0 => 0
  | k + 1 => tot l k + clampS (l.getD k 0)
theorem tot_le (l : List Int) : ∀ k, tot l k ≤ 100 * k
  | 0 => by simp [tot]
  | k + 1 => by
    have := tot_le l k
    have := clampS_le (l.getD k 0)
    simp only [tot]
    omega
theorem tot_mono (l : List Int) (i : Nat) : ∀ j, i ≤ j → tot l i ≤ tot l j
  | 0, h => by
    obtain rfl : i = 0 := by omega
    exact Nat.le_refl _
  | j + 1, h => by
    by_cases e : i = j + 1
    · subst e; exact Nat.le_refl _
    · have := tot_mono l i j (by omega)
      simp only [tot]
      omega
/-- The cells of the first k spans. -/
def spanCells (l : List Int) : Nat → List Value
  | 0 => []
  | k + 1 => spanCells l k ++ [.int .i64 (tot l k), .int .i64 (clampS (l.getD k 0))]
theorem spanCells_length (l : List Int) : ∀ k, (spanCells l k).length = k * 2
  | 0 => rfl
  | k + 1 => by simp [spanCells, spanCells_length l k]; omega
theorem spanCells_at (l : List Int) (i : Nat) : ∀ k, i < k → (spanCells l k)[2 * i]? = some (.int .i64 (tot l i)) ∧ (spanCells l k)[2 * i + 1]? = some (.int .i64 (clampS (l.getD i 0)))
  | 0, h => by omega
  | k + 1, h => by
    have hl := spanCells_length l k
    by_cases e : i = k
    · subst e
      simp only [spanCells]
      rw [List.getElem?_append_right (by omega), List.getElem?_append_right (by omega)]
      rw [show 2 * i - (spanCells l i).length = 0 by omega, show 2 * i + 1 - (spanCells l i).length = 1 by omega]
      exact ⟨rfl, rfl⟩
    · simp only [spanCells]
      rw [List.getElem?_append_left (by omega), List.getElem?_append_left (by omega)]
      exact spanCells_at l i k (by omega)

/-- What is owned from 'base' on stays owned where blocks below 'base' alone are written. -/
theorem ownsRow_kp {w w' : World} {p q base : Nat} {e : TypeId} {size : Nat} {v : Value} {n : Nat} {xs : List Value} (h : w.ownsRow base e size v n xs) (k : Kp p q w w') (hp : p < base) (hq : q < base) : w'.ownsRow base e size v n xs := by
  obtain ⟨h1, h2⟩ := h
  refine ⟨h1, ?_⟩
  rcases h2 with h2 | ⟨g, cap, cur, hv, hg, hh, r⟩
  · exact .inl h2
  · exact .inr ⟨g, cap, cur, hv, hg, k.row hh (by omega) (by omega), r⟩
theorem ownsRow_below {w w' : World} {base : Nat} {e : TypeId} {size : Nat} {v : Value} {n : Nat} {xs : List Value} (h : w.ownsRow base e size v n xs) (k : Below w.heap.size w w') : w'.ownsRow base e size v n xs := by
  obtain ⟨h1, h2⟩ := h
  refine ⟨h1, ?_⟩
  rcases h2 with h2 | ⟨g, cap, cur, hv, hg, hh, r⟩
  · exact .inl h2
  · exact .inr ⟨g, cap, cur, hv, hg, (k.block g (Array.getElem?_eq_some_iff.1 hh).1).trans hh, r⟩

theorem span_cell {w : World} {g k : Nat} {l : List Int} {cur : Array Value} {T : TypeId} (hg : w.heap[g]? = some (.cells cur T (0, 0))) (ht : cur.toList.take (k * 2) = spanCells l k) (i : Nat) (hi : i < k) :
    w.cell? ⟨g, i * 2, none⟩ = some (.int .i64 (tot l i)) ∧ w.cell? ⟨g, i * 2 + 1, none⟩ = some (.int .i64 (clampS (l.getD i 0))) := by
  obtain ⟨h1, h2⟩ := spanCells_at l i k hi
  rw [← ht, List.getElem?_take, if_pos (by omega), Nat.mul_comm] at h1
  rw [← ht, List.getElem?_take, if_pos (by omega), Nat.mul_comm] at h2
  simp only [World.cell?, hg]
  exact ⟨by simpa using h1, by simpa using h2⟩
theorem Ar.grown {w w' : World} {p q : Nat} {mem : List Int} {live peak : Nat} {r : Option Nat} (h : Ar w p q mem live peak) (hg : w.grownBy w' r) (h1 : some p ≠ r) (h2 : some q ≠ r) : Ar w' p q mem live peak :=
  ⟨by rw [hg.block p h.plt h1]; exact h.hp, by rw [hg.block q h.qlt h2]; exact h.hq, h.ne, h.ll, h.pl, h.small, h.byts⟩
theorem spanInfo : (Try.prog.info? 34).map (fun i => (i.zero, i.size, i.bytes)) = some (some (.agg #[.int .i64 0, .int .i64 0]), 2, 16) := by kernel_rfl
theorem spansT : Try.prog.underlying 50 = some (.slice 34) := by kernel_rfl

set_option maxRecDepth 100000 in
set_option maxHeartbeats 1000000 in
theorem apart_long (a0 : Option Addr) (len0 cap0 : Nat) (x y c : Int) (w : World) (h : 20 < len0 ∨ len0 = 0) (h63 : len0 ≤ 9223372036854775807) :
    Calls Try.prog 4 #[.slice a0 len0 cap0, .int .i64 x, .int .i64 y, .int .u8 c] w fun e w' => e = .returned (.bool true) ∧ Below w.heap.size w w' := by
  rcases h with h | h
  · have d : decide ((20 : Int) < (len0 : Int)) = true := by simp; omega
    go_enter Try.func4, Try.ntmps4
    go_wp2_with fail
    refine (wakes_call w).mono ?_
    rintro e w1 ⟨rfl, hb⟩
    go_wp2
    go_ret
    exact ⟨rfl, hb⟩
  · subst h
    go_enter Try.func4, Try.ntmps4
    go_wp2_with fail
    refine (wakes_call w).mono ?_
    rintro e w1 ⟨rfl, hb⟩
    go_wp2
    go_ret
    exact ⟨rfl, hb⟩

theorem splice_rep2 (m o n : Nat) (h : o + n ≤ m) : splice (List.replicate m (0 : Int)) o (List.replicate n 0) = List.replicate m 0 := by
  apply List.ext_getElem?
  intro i
  rw [splice_getElem? _ _ _ (by simp; omega)]
  simp only [List.length_replicate, List.getElem?_replicate]
  split
  · rw [if_pos (by omega), if_pos (by omega)]
  · rfl

theorem byteOk_in (live t s : Nat) (y : Int) (h : t + s ≤ live) : byteOk live t s y = (decide (0 ≤ y) && decide (y < (s : Int))) := by
  have e : hasB live t s = true := by simp [hasB]; omega
  unfold byteOk
  rw [e]
  simp
/-- What the law expects of byte j of span m. -/
def wantApart (ok : Bool) (wh m : Nat) (y c : Int) (j : Nat) : Int := if ok = true ∧ m = wh ∧ (j : Int) = y then c else 0
theorem rep_getD (N i : Nat) : (List.replicate N (0 : Int))[i]?.getD 0 = 0 := by
  rw [List.getElem?_replicate]
  split <;> rfl
theorem apart_seg (N : Nat) (l : List Int) (k : Nat) (hN : tot l k ≤ N) (wh : Nat) (hwk : wh < k) (t0 s0 : Nat) (e0 : t0 = tot l wh) (e1 : s0 = clampS (l.getD wh 0)) (y c : Int) (m : Nat) (hm : m < k) (j : Nat) (hj : j < clampS (l.getD m 0)) :
    (seg (memSet (List.replicate N 0) (tot l k) t0 s0 y c) (tot l m) (clampS (l.getD m 0))).getD j 0 = wantApart (decide (0 ≤ y) && decide (y < (s0 : Int))) wh m y c j := by
  have hts : t0 + s0 ≤ tot l k := by
    have := tot_mono l (wh + 1) k hwk
    simp only [tot] at this
    omega
  have hm1 : tot l m + clampS (l.getD m 0) ≤ tot l k := by
    have := tot_mono l (m + 1) k hm
    simp only [tot] at this
    omega
  rw [List.getD_eq_getElem?_getD, seg_getElem?, if_pos hj]
  unfold wantApart memSet
  rw [byteOk_in _ _ _ _ hts]
  by_cases hok : (decide (0 ≤ y) && decide (y < (s0 : Int))) = true
  · rw [if_pos hok]
    simp only [hok, true_and]
    simp only [Bool.and_eq_true, decide_eq_true_eq] at hok
    obtain ⟨y', rfl⟩ := Int.eq_ofNat_of_zero_le hok.1
    rw [show ((t0 : Int) + (y' : Int)).toNat = t0 + y' by omega, List.getElem?_set]
    by_cases hmw : m = wh
    · subst hmw
      by_cases hjy : (j : Int) = (y' : Int)
      · have e2 : t0 + y' = tot l m + j := by omega
        have e3 : tot l m + j < N := by omega
        simp [e2, e3, hjy]
      · rw [if_neg (by omega), if_neg (fun h => hjy h.2)]
        exact rep_getD _ _
    · rw [if_neg, if_neg (fun h => hmw h.1)]
      · exact rep_getD _ _
      · intro e
        rcases Nat.lt_or_gt_of_ne hmw with h | h
        · have := tot_mono l (m + 1) wh h
          simp only [tot] at this
          omega
        · have := tot_mono l (wh + 1) m h
          simp only [tot] at this
          omega
  · rw [if_neg hok, if_neg (fun h => hok h.1)]
    exact rep_getD _ _

set_option maxRecDepth 100000 in
set_option maxHeartbeats 4000000 in
theorem apart_short (g0 o0 : Nat) (cap0 : Nat) (x y c : Int) (w : World) (l : List Int) (hs : ∀ j, j < l.length → w.cell? ⟨g0, o0 + j, none⟩ = some (.int .i64 (l.getD j 0))) (hby : ∀ n ∈ l, (Lit.int .i64 n).wf = true) (h : l.length ≤ 20) (h0 : 0 < l.length)
    (hc : 0 ≤ c ∧ c ≤ 255) (hx : -9223372036854775808 ≤ x) (hx' : x ≤ 9223372036854775807) (hy : -9223372036854775808 ≤ y) (hy' : y ≤ 9223372036854775807) :
    Calls Try.prog 4 #[.slice (some ⟨g0, o0, none⟩) l.length cap0, .int .i64 x, .int .i64 y, .int .u8 c] w fun e w' => e = .returned (.bool true) ∧ Below w.heap.size w w' := by
  obtain ⟨n, hn⟩ : ∃ n, n = l.length := ⟨_, rfl⟩
  rw [← hn] at h h0 hs ⊢
  have d : decide ((20 : Int) < (n : Int)) = false := by simp; omega
  have d0 : ((n : Int) == 0) = false := by simp; omega
  have hn' := Lib.hid hn
  have hS := Lib.hid hs
  have hY := Lib.hid hby
  clear hn hs hby
  go_enter Try.func4, Try.ntmps4
  go_wp2_with fail
  refine (new_yes w 2000 (by omega) (by omega)).mono ?_
  rintro e w1 ⟨p, q, rfl, hp, hq, a1, hb⟩
  have b1 := Lib.hid hb
  have hp1 := a1.plt
  have hq1 := a1.qlt
  clear hb
  go_wp2_with fail
  go_loopw [11, 12, 13] (fun v t i wr => ∃ k : Nat, k ≤ n ∧ i = .int .i64 k ∧ t = .int .i64 (tot l k) ∧ wr.ownsRow w1.heap.size 34 2 v k (spanCells l k) ∧ Ar wr p q (List.replicate 2000 0) (tot l k) (tot l k) ∧ Below w.heap.size w wr ∧ w1.heap.size ≤ wr.heap.size)
    (fun _ _ i _ => n - (intOf i).toNat)
  case atStart => exact ⟨0, Nat.zero_le _, rfl, rfl, World.ownsRow_nil _ _ _ _, a1, b1.out, Nat.le_refl _⟩
  case round =>
    obtain ⟨k, hk, rfl, rfl, hown, ar, hbr, hsz⟩ := hrel
    by_cases hlt : k < n
    · have hbv := bounds_i64 (hY.out (l.getD k 0) (by
        have := hn'.out
        rw [List.getD_eq_getElem?_getD, List.getElem?_eq_getElem (by omega)]
        exact List.getElem_mem _))
      have c0 : wr.cell? ⟨g0, o0 + k, none⟩ = some (.int .i64 (l.getD k 0)) := (hbr.cell (World.block_lt_of_cell? w _ (hS.out k hlt))).trans (hS.out k hlt)
      obtain ⟨u, hu⟩ : ∃ u, u = l.getD k 0 := ⟨_, rfl⟩
      obtain ⟨s, hsu⟩ : ∃ s, s = clampS u := ⟨_, rfl⟩
      rw [← hu] at c0 hbv
      obtain ⟨hb1, hb2⟩ := hbv
      have hT := tot_le l k
      have hsl : s ≤ 100 := hsu ▸ clampS_le u
      have hmm : min (max u 0) 100 = (s : Int) := by rw [hsu]; unfold clampS; omega
      have HU := Lib.hid hu
      have HS := Lib.hid hsu
      have HM := Lib.hid hmm
      have HO := Lib.hid hown
      have HA := Lib.hid ar
      have HB := Lib.hid hbr
      clear hu hsu hown ar hbr hmm
      go_upto_region 11 with fail
      go_cut [14] (fun s14 wx => s14 = .int .i64 s ∧ wx = wr)
      case first =>
        go_wp2
        all_goals go_meet
        all_goals
          refine ⟨?_, rfl⟩
          congr 1
          have := HM.out
          omega
      case rest =>
        obtain ⟨rfl, rfl⟩ := hcut
        go_wp2_with fail
        refine (take_yes HA.out s (by rw [List.length_replicate]; omega)).mono ?_
        rintro e w2 ⟨rfl, k2, a2⟩
        have hb2 := Lib.hid (Kp.belowAll HB.out k2 HB.out.size hp hq)
        have ho2 := Lib.hid (ownsRow_kp HO.out k2 hp1 hq1)
        have hsz2 := Nat.le_trans hsz k2.size
        rw [splice_rep2 _ _ _ (by omega), Nat.max_eq_right (by omega)] at a2
        have ha2 := Lib.hid a2
        clear a2 k2
        obtain ⟨i0, hi, hz0, hz1, hz2⟩ := info_parts spanInfo
        go_wp2_with (first
          | (at_builtin; refine wpList_append_own _ rfl (.tmp 76) (.tmp 78) 50 rfl w1.heap.size 34 i0 _ 2 16 spansT hi hz0 hz1 hz2 rfl (by decide) _ k _ rfl ((ho2.out.alloc _).alloc _) ⟨w2.heap.size + 1, 0, none⟩ 1 1 [.int .i64 (tot l k), .int .i64 s] rfl rfl ?c1 ?c2 ?c3 ?c4 ?c5 ?_))
        case c1 =>
          intro j u hj
          match j, hj with
          | 0, hj => simp at hj; subst hj; simp [Addr.add]
          | 1, hj => simp at hj; subst hj; simp [Addr.add]
          | j + 2, hj => simp at hj
        case c2 =>
          intro u hu
          simp at hu
          rcases hu with rfl | rfl <;> rfl
        case c3 => unfold maxLen; omega
        case c4 => omega
        case c5 => simp; omega
        intro v' w' hown' hgr hnil
        have hlt1 := ho2.out.lt
        have hown2 := Lib.hid hown'
        have ha3 := Lib.hid (((ha2.out.alloc _).alloc _).grown hgr (fun e => by have := hlt1 p e.symm; omega) (fun e => by have := hlt1 q e.symm; omega))
        have hb3 := Lib.hid (((hb2.out.alloc hb2.out.size _).alloc (by have := hb2.out.size; simp; omega) _).grown hgr (by have := hb2.out.size; simp; omega) (fun g e => by have := hlt1 g e; have := b1.out.size; omega))
        have hsz3 : w1.heap.size ≤ w'.heap.size := by have := hgr.size; simp at this; omega
        clear hown' hgr hnil hlt1
        go_wp2
        refine ⟨⟨k + 1, by omega, by go_num, ?_, ?_, ?_, hb3.out, hsz3⟩, by simp [intOf]; omega⟩
        · simp only [tot]
          rw [← HU.out, ← HS.out]
          go_num
        · simp only [spanCells]
          rw [← HU.out, ← HS.out]
          exact hown2.out
        · simp only [tot]
          rw [← HU.out, ← HS.out]
          exact ha3.out
    · obtain rfl : k = n := by omega
      have HO := Lib.hid hown
      have HA := Lib.hid ar
      have HB := Lib.hid hbr
      clear hown ar hbr
      rcases HO.out.2 with ⟨_, hk0⟩ | ⟨g, cap, cur, hv, hgb, hcur, hnc, hcm, hcs, htk⟩
      · omega
      subst hv
      have hR := Lib.hid hcur
      have hTk := Lib.hid htk
      clear HO hcur htk
      obtain ⟨wh, hwh⟩ : ∃ wh, wh = (min (max x 0) ((k : Int) - 1)).toNat := ⟨_, rfl⟩
      have hwh2 : min (max x 0) ((k : Int) - 1) = (wh : Int) := by omega
      have hwk : wh < k := by omega
      have HW := Lib.hid hwh2
      clear hwh hwh2
      go_upto_region 17 with fail
      go_cut [1] (fun s1 wx => s1 = .int .i64 wh ∧ wx = wr)
      case first =>
        go_wp2
        all_goals go_meet
        all_goals
          refine ⟨?_, rfl⟩
          congr 1
          have := HW.out
          omega
      case rest =>
        obtain ⟨rfl, rfl⟩ := hcut
        have hT := tot_le l k
        obtain ⟨t0, ht0⟩ : ∃ t, t = tot l wh := ⟨_, rfl⟩
        obtain ⟨s0, hs0⟩ : ∃ t, t = clampS (l.getD wh 0) := ⟨_, rfl⟩
        obtain ⟨c0, c1⟩ := span_cell hR.out hTk.out wh hwk
        rw [← ht0] at c0
        rw [← hs0] at c1
        have hts : t0 + s0 ≤ tot l k := by
          have := tot_mono l (wh + 1) k hwk
          simp only [tot] at this
          omega
        have H0 := Lib.hid ht0
        have H1 := Lib.hid hs0
        clear ht0 hs0
        go_wp2_with fail
        refine (setByte_call HA.out t0 s0 y c (by omega) hc).mono ?_
        rintro e w3 ⟨rfl, k3, a3⟩
        have c0' := k3.cell c0 (by simp; omega) (by simp; omega)
        have c1' := k3.cell c1 (by simp; omega) (by simp; omega)
        have hR3 := Lib.hid (k3.row hR.out (by omega) (by omega))
        have hB3 := Lib.hid (Kp.belowAll HB.out k3 HB.out.size hp hq)
        have hseg := apart_seg 2000 l k (by omega) wh hwk t0 s0 H0.out H1.out y c
        have hml : (memSet (List.replicate 2000 0) (tot l k) t0 s0 y c).length = 2000 := by
          unfold memSet
          split
          · rw [List.length_set, List.length_replicate]
          · rw [List.length_replicate]
        generalize memSet (List.replicate 2000 0) (tot l k) t0 s0 y c = mem3 at a3 hseg hml
        have HM3 := Lib.hid hml
        clear hml
        have A3 := Lib.hid a3
        have HG := Lib.hid hseg
        rw [byteOk_in (tot l k) t0 s0 y hts]
        clear c0 c1 k3 a3 hseg HA HB hR
        have hcases : (decide (0 ≤ y) = true ∧ (∃ y' : Nat, y = y' ∧ y' < s0)) ∨ (decide (0 ≤ y) = true ∧ decide (y < (s0 : Int)) = false) ∨ decide (0 ≤ y) = false := by
          by_cases e1 : 0 ≤ y
          · by_cases e2 : y < s0
            · exact .inl ⟨by simpa using e1, y.toNat, by omega, by omega⟩
            · exact .inr (.inl ⟨by simpa using e1, by simpa using e2⟩)
          · exact .inr (.inr (by simpa using e1))
        obtain ⟨ok, hok⟩ : ∃ b, b = (decide (0 ≤ y) && decide (y < (s0 : Int))) := ⟨_, rfl⟩
        rw [← hok]
        have hcase2 : (ok = true ∧ decide (0 ≤ y) = true ∧ decide (y < (s0 : Int)) = true) ∨ (ok = false ∧ decide (0 ≤ y) = true ∧ decide (y < (s0 : Int)) = false) ∨ (ok = false ∧ decide (0 ≤ y) = false) := by
          revert hok
          cases ok <;> cases decide (0 ≤ y) <;> cases decide (y < (s0 : Int)) <;> simp
        have HK := Lib.hid hok
        clear hok hcases
        rcases hcase2 with ⟨rfl, d1, d2⟩ | ⟨rfl, d1, d2⟩ | ⟨rfl, d1⟩
        all_goals
          go_wp2_with fail
          go_loopw [18] (fun i wr => ∃ m : Nat, m ≤ k ∧ i = .int .i64 m ∧ Ar wr p q mem3 (tot l k) (tot l k) ∧ wr.heap[g]? = some (.cells cur 34 (0, 0)) ∧ Below w.heap.size w wr)
            (fun i _ => k - (intOf i).toNat)
          case atStart => exact ⟨0, Nat.zero_le _, rfl, A3.out, hR3.out, hB3.out⟩
          case round =>
            obtain ⟨m, hm, rfl, am, rm, bm⟩ := hrel
            obtain ⟨wo, rfl⟩ : ∃ wo : World, wo = wr := ⟨_, rfl⟩
            by_cases hlt : m < k
            · obtain ⟨x0, x1⟩ := span_cell rm hTk.out m hlt
              have hmt : tot l m + clampS (l.getD m 0) ≤ tot l k := by
                have := tot_mono l (m + 1) k hlt
                simp only [tot] at this
                omega
              have HG2 := Lib.hid (HG.out m hlt)
              obtain ⟨tm, etm⟩ : ∃ t, t = tot l m := ⟨_, rfl⟩
              obtain ⟨sm, esm⟩ : ∃ t, t = clampS (l.getD m 0) := ⟨_, rfl⟩
              rw [← etm] at x0 hmt
              rw [← esm] at x1 hmt
              have hs100 : sm ≤ 100 := esm ▸ clampS_le _
              have Etm := Lib.hid etm
              have Esm := Lib.hid esm
              have AM := Lib.hid am
              have RM := Lib.hid rm
              have BM := Lib.hid bm
              clear etm esm am rm bm
              go_wp2_with fail
              refine (load_yes AM.out tm sm (by simp [hasB]; omega) hmt).mono ?_
              rintro e w4 ⟨g4, rfl, hg4, hr4, hb4⟩
              rw [seg_length _ _ _ (by have := AM.out.ll; omega)]
              have HR := Lib.hid hr4
              have hl4 : (seg mem3 tm sm).length = sm := seg_length _ _ _ (by have := AM.out.ll; omega)
              have HL := Lib.hid hl4
              have HA4 := Lib.hid (AM.out.below hb4)
              have HR4 := Lib.hid ((hb4.block g (Array.getElem?_eq_some_iff.1 RM.out).1).trans RM.out)
              have HB4 := Lib.hid (BM.out.trans (hb4.mono BM.out.size))
              have y1 := cell_later hb4 x1
              clear hb4 hr4 hl4 x0 x1 hg4
              go_wp2_with fail
              go_loop [20] (fun z => ∃ j : Nat, j ≤ sm ∧ z = .int .i64 j) (fun z => sm - (intOf z).toNat)
              case atStart => exact ⟨0, Nat.zero_le _, rfl⟩
              case round =>
                obtain ⟨j, hj, rfl⟩ := hrel
                by_cases hjl : j < sm
                · have z0 := cell_icells HR.out j (by rw [HL.out]; exact hjl)
                  have z1 := HG2.out j (by rw [← Esm.out]; exact hjl)
                  rw [← Etm.out, ← Esm.out, ← HK.out] at z1
                  rw [z1] at z0
                  clear z1
                  have hj100 : j ≤ 100 := by omega
                  have hm20 : m ≤ 20 := by omega
                  by_cases hmw : m = wh
                  · have e1 : (m == wh) = true := by simpa using hmw
                    have e1' : ((m : Int) == (wh : Int)) = true := by simp; omega
                    by_cases hjy : (j : Int) = y
                    · have e2 : ((j : Int) == y) = true := by simpa using hjy
                      first | rw [show wantApart true wh m y c j = c from if_pos ⟨rfl, hmw, hjy⟩] at z0 | rw [show wantApart false wh m y c j = 0 from if_neg (by simp)] at z0
                      clear hmw hjy
                      go_wp2
                      exact ⟨⟨j + 1, by omega, by go_num⟩, by simp [intOf]; omega⟩
                    · have e2 : ((j : Int) == y) = false := by simpa using hjy
                      first | rw [show wantApart true wh m y c j = 0 from if_neg (fun h => hjy h.2.2)] at z0 | rw [show wantApart false wh m y c j = 0 from if_neg (by simp)] at z0
                      clear hmw hjy
                      go_wp2
                      exact ⟨⟨j + 1, by omega, by go_num⟩, by simp [intOf]; omega⟩
                  · have e1 : (m == wh) = false := by simpa using hmw
                    have e1' : ((m : Int) == (wh : Int)) = false := by simp; omega
                    first | rw [show wantApart true wh m y c j = 0 from if_neg (fun h => hmw h.2.1)] at z0 | rw [show wantApart false wh m y c j = 0 from if_neg (by simp)] at z0
                    clear hmw
                    go_wp2
                    exact ⟨⟨j + 1, by omega, by go_num⟩, by simp [intOf]; omega⟩
                · obtain rfl : j = sm := by omega
                  clear HR HL
                  go_wp2
                  exact ⟨⟨m + 1, by omega, by go_num, HA4.out, HR4.out, HB4.out⟩, by simp [intOf]; omega⟩
            · obtain rfl : m = k := by omega
              have AM := Lib.hid am
              have BM := Lib.hid bm
              clear am bm rm
              go_wp2_with fail
              refine (mark_same AM.out).mono ?_
              rintro e w5 ⟨rfl, rfl⟩
              go_wp2_with fail
              refine (peak_same AM.out).mono ?_
              rintro e w5 ⟨rfl, rfl⟩
              go_wp2_with fail
              refine (left_call AM.out).mono ?_
              rintro e w5 ⟨rfl, hb⟩
              have B5 := Lib.hid (BM.out.trans (hb.mono BM.out.size))
              rw [HM3.out]
              clear hb AM BM
              go_wp2_with fail
              refine (wakes_call _).mono ?_
              rintro e w6 ⟨rfl, hb⟩
              have B6 := Lib.hid (B5.out.trans (hb.mono B5.out.size))
              clear hb
              go_wp2
              go_ret
              exact ⟨rfl, B6.out⟩

theorem apart_call (a0 : Option Addr) (len0 cap0 : Nat) (z0 : List Int) (x y c : Int) (w : World) (h0 : IsRow .i64 w a0 len0 cap0 z0) (h1 : (Lit.int .i64 x).wf = true) (h2 : (Lit.int .i64 y).wf = true) (h3 : (Lit.int .u8 c).wf = true) :
    Calls Try.prog 4 #[.slice a0 len0 cap0, .int .i64 x, .int .i64 y, .int .u8 c] w fun e w' => e = .returned (.bool true) ∧ Below w.heap.size w w' := by
  obtain ⟨hl, hs, hwf, h63, hcap⟩ := h0.src
  by_cases h : 20 < len0 ∨ len0 = 0
  · exact apart_long a0 len0 cap0 x y c w h h63
  · have b1 := bounds_i64 h1
    have b2 := bounds_i64 h2
    have b3 := bounds_u8 h3
    rcases hs with hs | ⟨g, o, rfl, hs⟩
    · rw [hs] at hl
      simp at hl
      omega
    · have := apart_short g o cap0 x y c w (z0.take len0) hs hwf (by omega) (by omega) b3 (by omega) (by omega) (by omega) (by omega)
      rw [hl] at this
      exact this
end Go.Proofs.Ytfmmachfcfngkaa
