/- The walk over winepresslaw01.ArenaWords. -/
import Derived.Test.YtfmmachfcfngkaaWakes
import Derived.Deep.LoopGhost
set_option linter.unusedVariables false
set_option linter.unusedSimpArgs false
namespace Go.Proofs.Ytfmmachfcfngkaa
open Go.RowKit

theorem seg_getElem? (m : List Int) (a n i : Nat) : (seg m a n)[i]? = if i < n then m[a + i]? else none := by
  simp only [seg, List.getElem?_take, List.getElem?_drop]
theorem splice_seg (m l : List Int) (o : Nat) (h : o + l.length ≤ m.length) : seg (splice m o l) o l.length = l := by
  apply List.ext_getElem?
  intro i
  rw [seg_getElem?, splice_getElem? _ _ _ h]
  by_cases hi : i < l.length
  · rw [if_pos hi, if_pos (by omega)]
    congr 1
    omega
  · rw [if_neg hi, List.getElem?_eq_none (by omega)]
theorem wordPut_getElem? (m : List Int) (o : Nat) (v : Int) (h : o + 3 < m.length) (i : Nat) :
    (wordPut m o v)[i]? = if i = o then some (v % 256) else if i = o + 1 then some (v / 256 % 256) else if i = o + 2 then some (v / 65536 % 256) else if i = o + 3 then some (v / 16777216) else m[i]? := by
  simp only [wordPut, List.getElem?_set, List.length_set]
  repeat' split
  all_goals first | rfl | omega

theorem splice_rep (m n : Nat) (h : n ≤ m) : splice (List.replicate m (0 : Int)) 0 (List.replicate n 0) = List.replicate m 0 := by
  simp [splice]
  omega
/-- What the law expects of byte k. -/
def wantWord (l : List Int) (ok : Bool) (i v : Int) (k : Nat) : Int :=
  if ok = true ∧ (k : Int) / 4 = i then v / ((2 ^ (8 * (k % 4)) : Nat) : Int) % 256 else l.getD k 0

theorem words_seg (m l : List Int) (i v : Int) (hv : 0 ≤ v) (hv' : v ≤ 4294967295) (hl : l.length ≤ m.length) (k : Nat) (hk : k < l.length) :
    (seg (wordSet (splice m 0 l) l.length 0 l.length i v) 0 l.length).getD k 0 = wantWord l (wordOk l.length 0 l.length i) i v k := by
  have hsp : (splice m 0 l).length = m.length := splice_length _ _ _ (by omega)
  have hg : (splice m 0 l)[k]? = l[k]? := by
    rw [splice_getElem? _ _ _ (by omega), if_pos (by omega)]
    rfl
  unfold wantWord wordSet
  by_cases hok : wordOk l.length 0 l.length i = true
  · obtain ⟨a', n', i', e1, e2, rfl, h1, h2⟩ := wordOk_yes hok
    rw [if_pos hok]
    simp only [hok, true_and]
    rw [List.getD_eq_getElem?_getD, seg_getElem?, if_pos hk, Nat.zero_add]
    have e : ((0 : Int) + 4 * (i' : Int)).toNat = 4 * i' := by omega
    rw [e, wordPut_getElem? _ _ _ (by omega), hg]
    by_cases hki : (k : Int) / 4 = i'
    · rw [if_pos hki]
      have h4 : k % 4 = 0 ∨ k % 4 = 1 ∨ k % 4 = 2 ∨ k % 4 = 3 := by omega
      rcases h4 with h4 | h4 | h4 | h4
      · rw [if_pos (by omega), h4]
        simp
      · rw [if_neg (by omega), if_pos (by omega), h4]
        simp
      · rw [if_neg (by omega), if_neg (by omega), if_pos (by omega), h4]
        simp
      · rw [if_neg (by omega), if_neg (by omega), if_neg (by omega), if_pos (by omega), h4]
        simp
        omega
    · rw [if_neg hki, if_neg (by omega), if_neg (by omega), if_neg (by omega), if_neg (by omega)]
      rfl
  · rw [if_neg hok, if_neg (fun h => hok h.1)]
    rw [List.getD_eq_getElem?_getD, seg_getElem?, if_pos hk, Nat.zero_add, hg]
    rfl

theorem words_back (m l : List Int) (i v : Int) (hv : 0 ≤ v) (hv' : v ≤ 4294967295) (hl : l.length ≤ m.length) :
    wordV (wordSet (splice m 0 l) l.length 0 l.length i v) l.length 0 l.length i = if wordOk l.length 0 l.length i then v else 0 := by
  unfold wordV wordSet
  by_cases hok : wordOk l.length 0 l.length i = true
  · obtain ⟨a', n', i', e1, e2, rfl, h1, h2⟩ := wordOk_yes hok
    have hsp : (splice m 0 l).length = m.length := splice_length _ _ _ (by omega)
    rw [if_pos hok, if_pos hok, if_pos hok]
    have e : ((0 : Int) + 4 * (i' : Int)).toNat = 4 * i' := by omega
    rw [e]
    unfold word4
    simp only [List.getD_eq_getElem?_getD, wordPut_getElem? _ _ _ (show 4 * i' + 3 < (splice m 0 l).length by omega)]
    simp
    omega
  · rw [if_neg hok, if_neg hok]

theorem want_yes (l : List Int) (i v : Int) (k : Nat) (h : (k : Int) / 4 = i) : (wantWord l true i v k != v / 2 ^ (8 * (k % 4)) % 256) = false := by
  unfold wantWord
  rw [if_pos ⟨rfl, h⟩]
  simp
theorem want_no (l : List Int) (ok : Bool) (i v : Int) (k : Nat) (u : Int) (hu : u = l.getD k 0) (h : ¬ (ok = true ∧ (k : Int) / 4 = i)) : (wantWord l ok i v k != u) = false := by
  unfold wantWord
  rw [if_neg h, ← hu]
  simp

set_option maxRecDepth 100000 in
set_option maxHeartbeats 1000000 in
theorem words_long (a0 : Option Addr) (len0 cap0 : Nat) (i v : Int) (w : World) (h : 200 < len0) (h63 : len0 ≤ 9223372036854775807) :
    Calls Try.prog 5 #[.slice a0 len0 cap0, .int .i64 i, .int .u32 v] w fun e w' => e = .returned (.bool true) ∧ Below w.heap.size w w' := by
  have d : decide ((200 : Int) < (len0 : Int)) = true := by simp; omega
  go_enter Try.func5, Try.ntmps5
  go_wp2_with fail
  refine (wakes_call w).mono ?_
  rintro e w1 ⟨rfl, hb⟩
  go_wp2
  go_ret
  exact ⟨rfl, hb⟩

set_option maxRecDepth 100000 in
set_option maxHeartbeats 4000000 in
theorem words_short (a0 : Option Addr) (cap0 : Nat) (i v : Int) (w : World) (l : List Int) (hs : Src w .u8 a0 l) (hby : Byts l) (h : l.length ≤ 200)
    (hv : 0 ≤ v) (hv' : v ≤ 4294967295) (hi : -9223372036854775808 ≤ i) (hi' : i ≤ 9223372036854775807) :
    Calls Try.prog 5 #[.slice a0 l.length cap0, .int .i64 i, .int .u32 v] w fun e w' => e = .returned (.bool true) ∧ Below w.heap.size w w' := by
  have d : decide ((200 : Int) < (l.length : Int)) = false := by simp; omega
  obtain ⟨n, hn⟩ : ∃ n, n = l.length := ⟨_, rfl⟩
  have hwd := words_seg (List.replicate 250 0) l i v hv hv' (by simp; omega)
  have hbk := words_back (List.replicate 250 0) l i v hv hv' (by simp; omega)
  rw [← hn] at h d hwd hbk ⊢
  have hn' := Lib.hid hn
  have hS := Lib.hid hs
  have hW := Lib.hid hwd
  have hB := Lib.hid hbk
  have hY := Lib.hid hby
  clear hn hs hwd hbk hby
  go_enter Try.func5, Try.ntmps5
  go_wp2_with fail
  refine (new_yes w 250 (by omega) (by omega)).mono ?_
  rintro e w1 ⟨p, q, rfl, hp, hq, a1, hb⟩
  have b1 := Lib.hid hb
  clear hb
  go_wp2_with fail
  refine (take_yes a1 n (by simp; omega)).mono ?_
  rintro e w2 ⟨rfl, k2, a2⟩
  rw [splice_rep 250 n (by omega), Nat.zero_add, Nat.zero_max] at a2
  rw [Int.natCast_zero]
  have b2 := Lib.hid (Kp.belowAll b1.out k2 b1.out.size hp hq)
  have hp2 := Nat.ne_of_gt a2.plt
  have hq2 := Nat.ne_of_gt a2.qlt
  have s0 : (w2.alloc (.cells #[Value.int IntKind.i64 0, Value.int IntKind.i64 n] 34)).cell? ⟨w2.heap.size, 0, none⟩ = some (.int .i64 0) := by simp
  have s1 : (w2.alloc (.cells #[Value.int IntKind.i64 0, Value.int IntKind.i64 n] 34)).cell? ⟨w2.heap.size, 1, none⟩ = some (.int .i64 n) := by simp
  clear a1 b1 k2
  go_wp2_with fail
  refine (store_yes (a2.alloc _) 0 n 0 a0 n cap0 l hn'.out.symm (hS.out.below (b2.out.alloc b2.out.size _)) hY.out (by simp [hasB]) (by omega) (by omega)).mono ?_
  rintro e w3 ⟨rfl, k3, a3⟩
  rw [Nat.zero_add] at a3
  have s0' := k3.cell s0 hp2 hq2
  have s1' := k3.cell s1 hp2 hq2
  have b3 := Lib.hid (Kp.belowAll b2.out ((Kp.alloc p q _ _).trans k3) b2.out.size hp hq)
  clear s0 s1 a2 b2 k3
  go_wp2_with fail
  refine (setWord_call a3 0 n i v hv hv' (by omega)).mono ?_
  rintro e w4 ⟨rfl, k4, a4⟩
  have s0 := k4.cell s0' hp2 hq2
  have s1 := k4.cell s1' hp2 hq2
  have b4 := Lib.hid (Kp.belowAll b3.out k4 b3.out.size hp hq)
  clear s0' s1' a3 b3 k4
  go_wp2_with fail
  refine (word_call a4 0 n i (by omega)).mono ?_
  rintro e w5 ⟨rfl, hb⟩
  have a5 := a4.below hb
  have s0' := cell_later hb s0
  have s1' := cell_later hb s1
  have b5 := Lib.hid (b4.out.trans (hb.mono b4.out.size))
  clear s0 s1 a4 b4 hb
  rw [hB.out]
  have hZn : 0 + n ≤ (wordSet (splice (List.replicate 250 0) 0 l) n 0 (↑n) i v).length := by have := a5.ll; omega
  obtain ⟨ok, hok⟩ : ∃ b, b = wordOk n 0 n i := ⟨_, rfl⟩
  rw [← hok]
  have hd : ok = (decide (0 ≤ i) && decide (i < (n : Int) / 4)) := by
    rw [hok]
    simp [wordOk, hasB]
  have HOK := Lib.hid hok
  clear hok
  have hcases : ok = false ∧ (decide (0 ≤ i) = true ∧ decide (i < (n : Int) / 4) = false ∨ decide (0 ≤ i) = false) ∨ ok = true ∧ decide (0 ≤ i) = true ∧ decide (i < (n : Int) / 4) = true := by
    revert hd
    cases ok <;> cases decide (0 ≤ i) <;> cases decide (i < (n : Int) / 4) <;> simp
  clear hd
  rcases hcases with ⟨rfl, ⟨d1, d2⟩ | d1⟩ | ⟨rfl, d1, d2⟩
  all_goals
    first | rw [if_pos rfl] | rw [if_neg (by simp)]
    go_wp2_with fail
    refine (load_yes a5 0 n (by simp [hasB]) (by omega)).mono ?_
    rintro e w6 ⟨g, rfl, hg, hr, hb⟩
    rw [seg_length _ _ _ hZn]
    have b6 := Lib.hid (b5.out.trans (hb.mono b5.out.size))
    have hgw : w.heap.size ≤ g := Nat.le_trans b5.out.size hg
    have hS6 := hS.out.below b6.out
    have hwant := hW.out
    rw [← HOK.out] at hwant
    clear a5 b5 hb s0' s1'
    generalize hZ : seg (wordSet (splice (List.replicate 250 0) 0 l) n 0 (↑n) i v) 0 n = z at hr hwant
    have hZl : z.length = n := by
      rw [← hZ]
      exact seg_length _ _ _ hZn
    have HZ := Lib.hid hZl
    have HW := Lib.hid hwant
    have HR := Lib.hid hr
    have HS := Lib.hid hS6
    clear hZ hZl hwant hr hS6 hg
    go_wp2_with fail
    go_loop [15] (fun x => ∃ k : Nat, k ≤ n ∧ x = .int .i64 k) (fun x => n - (intOf x).toNat)
    case atStart => exact ⟨0, Nat.zero_le _, rfl⟩
    case round =>
      obtain ⟨k, hk, rfl⟩ := hrel
      by_cases hlt : k < n
      · have hS7 := HS.out
        rcases hS7 with rfl | ⟨g0, o0, rfl, hc0⟩
        · have := hn'.out
          simp at this
          omega
        · have c0 := hc0 k (by rw [← hn'.out]; exact hlt)
          have c1 := cell_icells HR.out k (by rw [HZ.out]; exact hlt)
          rw [HW.out k hlt] at c1
          have hb1 : 0 ≤ l.getD k 0 ∧ l.getD k 0 ≤ 255 := Byts.bd hY.out k
          obtain ⟨b11, b12⟩ := hb1
          obtain ⟨u, hu⟩ : ∃ u, u = l.getD k 0 := ⟨_, rfl⟩
          rw [← hu] at c0 b11 b12
          have hk200 : k ≤ 200 := by omega
          by_cases hki : (k : Int) / 4 = i
          · have dki : ((k : Int) / 4 == i) = true := by simpa using hki
            have hw : (wantWord l false i v k != u) = false := want_no _ _ _ _ _ _ hu (by simp)
            have hw2 : (wantWord l true i v k != v / 2 ^ (8 * (k % 4)) % 256) = false := want_yes _ _ _ _ hki
            clear hki hu
            go_wp2
            exact ⟨⟨k + 1, by omega, by go_num⟩, by simp [intOf]; omega⟩
          · have dki : ((k : Int) / 4 == i) = false := by simpa using hki
            have hw : (wantWord l false i v k != u) = false := want_no _ _ _ _ _ _ hu (by simp)
            have hw2 : (wantWord l true i v k != u) = false := want_no _ _ _ _ _ _ hu (by simp [hki])
            clear hki hu
            go_wp2
            exact ⟨⟨k + 1, by omega, by go_num⟩, by simp [intOf]; omega⟩
      · obtain rfl : k = n := by omega
        go_wp2_with fail
        refine (wakes_call w6).mono ?_
        rintro e w7 ⟨rfl, hb⟩
        have b7 := Lib.hid (b6.out.trans (hb.mono b6.out.size))
        clear hb
        go_wp2
        go_ret
        exact ⟨rfl, b7.out⟩

theorem words_call (a0 : Option Addr) (len0 cap0 : Nat) (z0 : List Int) (i v : Int) (w : World) (h0 : IsRow .u8 w a0 len0 cap0 z0) (h1 : (Lit.int .i64 i).wf = true) (h2 : (Lit.int .u32 v).wf = true) :
    Calls Try.prog 5 #[.slice a0 len0 cap0, .int .i64 i, .int .u32 v] w fun e w' => e = .returned (.bool true) ∧ Below w.heap.size w w' := by
  obtain ⟨hl, hs, hwf, h63, _⟩ := h0.src
  by_cases h : 200 < len0
  · exact words_long a0 len0 cap0 i v w h h63
  · have b1 := bounds_i64 h1
    have b2 := bounds_u32 h2
    have := words_short a0 cap0 i v w (z0.take len0) hs (Byts.of_wf hwf) (by omega) (by omega) (by omega) (by omega) (by omega)
    rw [hl] at this
    exact this

end Go.Proofs.Ytfmmachfcfngkaa
