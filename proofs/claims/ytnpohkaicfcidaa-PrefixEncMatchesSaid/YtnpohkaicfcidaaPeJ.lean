/- The reference's Bit, Spell, Read. -/
import Derived.Test.YtnpohkaicfcidaaPeI
set_option linter.unusedVariables false
set_option linter.unusedSimpArgs false
namespace Go.Proofs.Ytnpohkaicfcidaa
open Go.RowKit

def Byts (l : List Int) : Prop := ∀ x ∈ l, 0 ≤ x ∧ x ≤ 255
theorem valV_getD (L : List Int) (hb : Bin L) (k n : Nat) (hn : L.length = n) (hk : k < n) : valV L / ((2 ^ (n - 1 - k) : Nat) : Int) % 2 = L.getD k 0 := by
  subst hn
  have h := bits_valV L hb
  have := bitsV_getD (valV L) L.length k hk
  rw [h] at this
  exact this.symm
theorem getD_mid (L : List Int) (u n k : Nat) (hk : k < n) : ((L.drop u).take n).getD k 0 = L.getD (u + k) 0 := by
  simp [List.getD_eq_getElem?_getD, List.getElem?_take, hk]
theorem Bin.mid {L : List Int} (h : Bin L) (u n : Nat) : Bin ((L.drop u).take n) := fun x hx => h x (List.mem_of_mem_drop (List.mem_of_mem_take hx))
theorem mid_length (L : List Int) (u n : Nat) (h : u + n ≤ L.length) : ((L.drop u).take n).length = n := by
  rw [List.length_take, List.length_drop]; omega
theorem bitsB_drop (l : List Int) (n : Nat) : bitsB (l.drop n) = (bitsB l).drop (8 * n) := by
  induction n generalizing l with
  | zero => rfl
  | succ n ih =>
    cases l with
    | nil => simp [bitsB]
    | cons x l =>
      rw [List.drop_succ_cons, ih, show bitsB (x :: l) = bitsV x 8 ++ bitsB l from rfl, show 8 * (n + 1) = 8 + 8 * n by omega, ← List.drop_drop]
      congr 1
/-- A byte's eight bits. -/
theorem mid_byte (l : List Int) (hl : ∀ x ∈ l, 0 ≤ x ∧ x ≤ 255) (j : Nat) (hj : j < l.length) : valV (((bitsB l).drop (8 * j)).take 8) = l[j] := by
  rw [← bitsB_drop, List.drop_eq_getElem_cons hj]
  rw [show bitsB (l[j] :: l.drop (j + 1)) = bitsV l[j] 8 ++ bitsB (l.drop (j + 1)) from rfl]
  have h8 : (bitsV l[j] 8).length = 8 := bitsV_length _ 8
  have := List.take_left (l₁ := bitsV l[j] 8) (l₂ := bitsB (l.drop (j + 1)))
  rw [h8] at this
  rw [this]
  have hb := hl _ (List.getElem_mem hj)
  exact valV_bits 8 _ hb.1 (by simp; omega)

set_option maxHeartbeats 400000 in
theorem bit_call (w : World) (sp : Option Addr) (n c : Nat) (l : List Int) (hl : l.length = n) (hS : Src w .u8 sp l) (hby : Byts l) (i : Nat) (hi : i < 8 * n) (h6 : n ≤ 1000000) :
    Calls Try.prog 16 #[.slice sp n c, .int .i64 i] w fun x w' => x = .returned (.int .i64 ((bitsB l).getD i 0)) ∧ w = w' := by
  have hv := bitsB_getD l i (by omega)
  rcases hS with rfl | ⟨g, o, rfl, hc⟩
  · simp at hl
    omega
  have hil : i / 8 < l.length := by omega
  have hci := hc (i / 8) hil
  have hxb := hby _ (List.getElem_mem hil)
  rw [getD_in _ _ hil] at hci hv
  obtain ⟨x, hx⟩ : ∃ x, x = l[i / 8] := ⟨_, rfl⟩
  rw [← hx] at hci hxb hv
  obtain ⟨q, hq⟩ : ∃ q, q = i / 8 := ⟨_, rfl⟩
  obtain ⟨r, hr⟩ : ∃ r, r = i % 8 := ⟨_, rfl⟩
  have hi8 : (i : Int) = 8 * (q : Int) + (r : Int) := by omega
  rw [← hq] at hci
  rw [← hr] at hv
  have hqn : q < n := by omega
  have hr7 : r ≤ 7 := by omega
  have eq1 : (i : Int) / 8 = (q : Int) := by omega
  have er1 : (i : Int) % 8 = (r : Int) := by omega
  obtain ⟨hx0, hx1⟩ := hxb
  have HV := Lib.hid hv
  clear hv hc hil hx hq hr hby hl hi8
  go_enter Try.func16, Try.ntmps16
  go_wp2_with fail
  rw [er1]
  go_loopw [5, 6] (fun c k wr => ∃ j : Nat, r ≤ j ∧ j ≤ 7 ∧ k = .int .i64 j ∧ c = .int .i64 (x / ((2 ^ (j - r) : Nat) : Int)) ∧ wr = w) (fun _ k _ => 7 - (intOf k).toNat)
  case atStart => exact ⟨r, Nat.le_refl _, hr7, rfl, by simp, rfl⟩
  case round =>
    obtain ⟨j, hrj, hj, rfl, rfl, rfl⟩ := hrel
    have hp0 := Nat.two_pow_pos (j - r)
    have hd0 : 0 ≤ x / ((2 ^ (j - r) : Nat) : Int) := Int.ediv_nonneg hx0 (by omega)
    have hd1 : x / ((2 ^ (j - r) : Nat) : Int) ≤ x := Int.ediv_le_self _ hx0
    by_cases hlt : j < 7
    · have hdiv : x / ((2 ^ (j - r) : Nat) : Int) / 2 = x / ((2 ^ (j + 1 - r) : Nat) : Int) := by
        rw [show j + 1 - r = j - r + 1 by omega, Nat.pow_succ, Int.natCast_mul, ← Int.ediv_ediv_of_nonneg (by omega)]
        rfl
      obtain ⟨y, hy⟩ : ∃ y, y = x / ((2 ^ (j - r) : Nat) : Int) := ⟨_, rfl⟩
      rw [← hy] at hdiv hd0 hd1 ⊢
      have HD := Lib.hid hdiv
      clear hdiv hy
      have dj : decide ((j : Int) < 7) = true := by simp; omega
      go_wp2_with fail
      go_roundw
      case rel => exact ⟨j + 1, by omega, by omega, by go_num, by rw [HD.out], trivial⟩
      case measure => simp [intOf]; omega
    · obtain rfl : j = 7 := by omega
      obtain ⟨y, hy⟩ : ∃ y, y = x / ((2 ^ (7 - r) : Nat) : Int) := ⟨_, rfl⟩
      rw [← hy] at HV hd0 hd1 ⊢
      clear hy
      go_wp2_with fail
      go_ret
      exact ⟨by rw [HV.out]; rfl, rfl⟩

/-- A slice of these bytes. -/
def IsU (n : Nat) (q : List Int) (v : Value) (w : World) : Prop := ∃ a c, v = .slice a n c ∧ Src w .u8 a q

set_option maxRecDepth 100000 in
set_option maxHeartbeats 2000000 in
theorem rspell_call (l : List Int) (h : Lng l) (sp : Option Addr) (n cap : Nat) (q : List Int) (hq : q.length = n) (hn : n ≤ 10000) (w : World) (hs : Src w .i64 sp q) :
    Calls Try.prog 9 #[.agg (lg l), .slice sp n cap] w fun e w' => ∃ v, e = .returned (.tuple #[v, .int .i64 (((spR l q).length : Nat) : Int), .int .i64 (spE l q)]) ∧ IsU (((spR l q).length + 7) / 8) (packB (spR l q)) v w' ∧ Below w.heap.size w w' := by
  have HBC := Lib.hid (fun W hs => rbits_call l h sp n cap q hq hn W hs)
  have HNO := Lib.hid (show canV l q = false → spR l q = [] from fun e => by unfold spR; rw [e]; rfl)
  have HE := Lib.hid (show spE l q = if canV l q then 0 else 2 from rfl)
  have hlen := spR_len (q := q) h
  have HBIN := Lib.hid (spR_bin l q)
  generalize spE l q = E at HE ⊢
  generalize spR l q = R at HBC HNO hlen HBIN ⊢
  generalize canV l q = B at HBC HNO HE
  obtain ⟨m, hm⟩ : ∃ m, m = R.length := ⟨_, rfl⟩
  rw [← hm] at HBC hlen ⊢
  have hm2 : m ≤ 150000 := by omega
  have HPC := Lib.hid (fun (A : Option Nat) (c : Nat) (W : World) (hS : Src W .i64 (ad0 A) R) => rpack_call (ad0 A) m c R hm.symm HBIN.out (by omega) W hS)
  have HM := Lib.hid hm
  clear hm hlen
  have hg := heap_alloc_last w (.cells (lg l) 23)
  have hb := ((Below.refl w.heap.size w).alloc (Nat.le_refl _) (.cells (lg l) 23))
  have hs1 := hs.below hb
  have HB := Lib.hid hb
  clear hb
  go_enter Try.func9, Try.ntmps9
  go_upto_region 1 with fail
  generalize w.alloc (.cells (lg l) 23) = w1 at hg HB hs1 ⊢
  go_upto_region 2 with (first
    | (refine wpList_load_row rfl 23 _ rfl w.heap.size rfl 23 (lg l) (0, 0) _ hg Try.underlying23 rfl (lngIk h) ?_)
    | (with_reducible refine (HBC.out _ hs1).mono ?_; rintro e w2 ⟨A, c, rfl, hs2⟩))
  have HB2 := Lib.hid (HB.out.trans (hs2.bel.mono HB.out.size))
  have hsr := hs2.own.src
  clear hs2 hg hs1 HBC
  cases B with
  | true =>
    have he : E = 0 := HE.out
    subst he
    go_wp2_with (with_reducible refine (HPC.out A c _ hsr).mono ?_; rintro e w3 ⟨g, rfl, hg1, hg2, hb3⟩)
    go_returns
    exact ⟨_, rfl, ⟨_, _, rfl, Src.whole hg2⟩, HB2.out.trans (hb3.mono HB2.out.size)⟩
  | false =>
    have he : E = 2 := HE.out
    have hr : R = [] := HNO.out rfl
    have hm0 : m = 0 := by rw [HM.out, hr]; rfl
    subst he hr hm0
    go_wp2_with fail
    go_returns
    exact ⟨_, rfl, ⟨_, _, rfl, Or.inl rfl⟩, HB2.out⟩

/-- What Read gives. -/
def rdR (l bl : List Int) (many : Int) : Option (List Int) := if ks l ≤ 32768 ∧ 0 ≤ many ∧ many ≤ 8 * bl.length then rdS l 0 0 [] ((bitsB bl).take many.toNat) else none
theorem rdS_end (l : List Int) (c : Int) (n : Nat) (out : List Int) : rdS l c n out [] = if 0 < n then none else some out := rfl
theorem drop_getD (q : List Int) (k : Nat) (h : k < q.length) : q.drop k = q.getD k 0 :: q.drop (k + 1) := by
  rw [List.drop_eq_getElem_cons h, List.getD_eq_getElem?_getD, List.getElem?_eq_getElem h]
  rfl

set_option maxRecDepth 100000 in
set_option maxHeartbeats 4000000 in
theorem rread_yes (l : List Int) (HV : VL l) (sp : Option Addr) (n cap : Nat) (bl : List Int) (hl : bl.length = n) (hby : Byts bl) (hn : n ≤ 1000) (M : Nat) (hM : M ≤ 8 * n) (w : World) (hs : Src w .u8 sp bl) :
    Calls Try.prog 13 #[.agg (lg l), .slice sp n cap, .int .i64 M] w fun e w' => ∃ A c, e = .returned (.tuple #[.slice (ad0 A) ((rdS l 0 0 [] ((bitsB bl).take M)).getD []).length c, .int .i64 (if (rdS l 0 0 [] ((bitsB bl).take M)).isSome then 0 else 2)]) ∧ NewO w w' A c ((rdS l 0 0 [] ((bitsB bl).take M)).getD []) := by
  have h := HV.lng
  have hrv := fun W => rvalid_call l h W
  rw [decide_eq_true HV.sum] at hrv
  have HRV := Lib.hid hrv
  clear hrv
  obtain ⟨bits0, hbits⟩ : ∃ x, x = (bitsB bl).take M := ⟨_, rfl⟩
  rw [← hbits]
  have HBC := Lib.hid (fun (i : Nat) (hi : i < M) (W : World) (hS : Src W .u8 sp bl) => show Calls Try.prog 16 #[.slice sp n cap, .int .i64 i] W fun x w' => x = .returned (.int .i64 (bits0.getD i 0)) ∧ W = w' from by
    have h1 := bit_call W sp n cap bl hl hS hby i (by omega) (by omega)
    have h2 : bits0.getD i 0 = (bitsB bl).getD i 0 := by
      rw [hbits]
      simp [List.getD_eq_getElem?_getD, List.getElem?_take, hi]
    rw [h2]
    exact h1)
  have HBL := Lib.hid (show bits0.length = M by rw [hbits, List.length_take, bitsB_length, hl]; omega)
  have HBN := Lib.hid (show Bin bits0 by rw [hbits]; exact fun x hx => bitsB_bin bl x (List.mem_of_mem_take hx))
  have HS := Lib.hid hs
  clear hbits hs hby hl
  generalize hX : rdS l 0 0 [] bits0 = X
  have HX : Unit → rdS l 0 0 [] bits0 = X := fun _ => hX
  clear hX
  obtain ⟨Z, hZ⟩ : ∃ Z : Int, Z = if X.isSome then 0 else 2 := ⟨_, rfl⟩
  obtain ⟨R, hR⟩ : ∃ R : List Int, R = X.getD [] := ⟨_, rfl⟩
  rw [← hZ, ← hR]
  have HSOME := Lib.hid (show ∀ y, X = some y → R = y ∧ Z = 0 from fun y e => by rw [hZ, hR, e]; exact ⟨rfl, rfl⟩)
  have HNONE := Lib.hid (show X = none → R = [] ∧ Z = 2 from fun e => by rw [hZ, hR, e]; exact ⟨rfl, rfl⟩)
  clear hZ hR
  have hg := heap_alloc_last w (.cells (lg l) 23)
  have HB := Lib.hid ((Below.refl w.heap.size w).alloc (Nat.le_refl _) (.cells (lg l) 23))
  have d1 : decide ((M : Int) < 0) = false := decide_eq_false (by omega)
  have d2 : decide (8 * (n : Int) < (M : Int)) = false := decide_eq_false (by omega)
  have d2n : decide (8 * n < M) = false := decide_eq_false (by omega)
  go_enter Try.func13, Try.ntmps13
  go_upto_region 1 with fail
  generalize w.alloc (.cells (lg l) 23) = w1 at hg HB ⊢
  go_upto_region 6 with (first
    | (refine wpList_load_row rfl 23 _ rfl w.heap.size rfl 23 (lg l) (0, 0) _ hg Try.underlying23 rfl (lngIk h) ?_)
    | (with_reducible refine (HRV.out _).mono ?_; rintro e w2 ⟨rfl, hb2⟩))
  have HB2 := Lib.hid (HB.out.trans (hb2.mono HB.out.size))
  have HG := Lib.hid (heap_on hb2 hg)
  clear hg hb2 HB HRV d1 d2 d2n
  go_loopw [8, 9, 10, 11] (fun o cv kv iv wr => ∃ (i k : Nat) (c : Int) (out : List Int) (A : Option Nat) (m cc : Nat), i ≤ M ∧ iv = .int .i64 i ∧ kv = .int .i64 k ∧ cv = .int .u32 c ∧ k ≤ 15 ∧ 0 ≤ c ∧ c < ((2 ^ k : Nat) : Int) ∧ o = .slice (ad0 A) m cc ∧ m = out.length ∧ m ≤ i ∧ NewO w2 wr A cc out ∧ X = rdS l c k out (bits0.drop i)) (fun _ _ _ iv _ => M - (intOf iv).toNat)
  case atStart => exact ⟨0, 0, 0, [], none, 0, 0, by omega, rfl, rfl, rfl, by omega, by omega, by simp, rfl, rfl, by omega, NewO.nil w2, by rw [List.drop_zero]; exact (HX ()).symm⟩
  case round =>
    obtain ⟨i, k, c, out, A, m, cc, hi, rfl, rfl, rfl, hk, hc0, hc1, rfl, hm, hmi, hno, hx⟩ := hrel
    have HO := Lib.hid hno
    have HM := Lib.hid hm
    have HXX := Lib.hid hx
    have hk2 : (2 ^ k : Nat) ≤ 2 ^ 15 := Nat.pow_le_pow_right (by omega) hk
    have hc15 : c < 32768 := by omega
    have HK2 := Lib.hid hc1
    clear hno hm hx hc1 hk2
    by_cases hlt : i < M
    · have hib : i < bits0.length := by rw [HBL.out]; exact hlt
      have hbc := HBC.out i hlt wr ((HS.out.below HB2.out).below HO.out.bel)
      have hxx := HXX.out
      rw [drop_getD _ _ hib] at hxx
      have hbb := HBN.out.getD i
      have hgr := heap_on HO.out.bel HG.out
      generalize bits0.getD i 0 = b at hbc hxx hbb
      have hb01 : 0 ≤ b ∧ b ≤ 1 := by omega
      have hkk : ((k + 1 : Nat) : Int) = (k : Int) + 1 := by omega
      have hfc := fun W => rfind_call l HV (2 * c + b) ((k + 1 : Nat) : Int) W
      have hC : 2 * c + b < ((2 ^ (k + 1) : Nat) : Int) := by
        have := HK2.out
        rw [Nat.pow_succ]
        omega
      have HC := Lib.hid hC
      have hsm := rdS_some l c k out b (bits0.drop (i + 1))
      have hfa := rdS_far l c k out b (bits0.drop (i + 1))
      have hon := rdS_on l c k out b (bits0.drop (i + 1))
      rw [hkk] at hfc hsm hfa hon
      have HFL := Lib.hid (fndL_lt l (2 * c + b) ((k : Int) + 1) 258)
      generalize fndL l (2 * c + b) ((k : Int) + 1) 258 = F at hfc hsm hfa hon HFL
      have HFC := Lib.hid hfc
      clear hfc hC hib hkk HK2
      cases F with
      | some s =>
        have hs258 := HFL.out s rfl
        have HNX := Lib.hid (hxx.trans (hsm s rfl))
        clear hxx hsm hfa hon HXX HFL HC
        have hm80 : m ≤ 8000 := by omega
        go_wp2_with (first
          | (with_reducible refine hbc.mono ?_; rintro e w3 ⟨rfl, rfl⟩)
          | (refine wpList_load_row rfl 23 _ rfl w.heap.size rfl 23 (lg l) (0, 0) _ hgr Try.underlying23 rfl (lngIk h) ?_)
          | (with_reducible refine (HFC.out _).mono ?_; rintro e w4 ⟨rfl, hb4⟩
             have HO4 := Lib.hid (HO.out.on hb4))
          | (refine wpList_appendI rfl _ _ 24 rfl 3 .i64 8 intsT intI A cc out m HM.out.symm rfl (HO4.out.own.alloc _) (some ⟨w4.heap.size, 0, none⟩) 1 1 rfl [(s : Int)] rfl (Src.whole (l := [(s : Int)]) (heap_alloc_last w4 _)) (by unfold maxLen; omega) (by omega) ?_
             intro A' c' w5 h1 h2 h3))
        exact ⟨⟨i + 1, 0, 0, out ++ [(s : Int)], A', m + 1, c', by omega, by go_num, rfl, rfl, by omega, by omega, by simp, rfl, by rw [List.length_append, HM.out]; rfl, by omega, (HO4.out.alloc _).app h1 h2 h3, HNX.out⟩, by simp [intOf]; omega⟩
      | none =>
        by_cases hk15 : 15 < k + 1
        · have HNX := Lib.hid (hxx.trans (hfa rfl hk15))
          have d16 : decide ((15 : Int) < (k : Int) + 1) = true := decide_eq_true (by omega)
          obtain ⟨hR, hZ⟩ := HNONE.out HNX.out
          subst hR hZ
          clear hxx hsm hfa hon HXX HFL HC
          go_wp2_with (first
            | (with_reducible refine hbc.mono ?_; rintro e w3 ⟨rfl, rfl⟩)
            | (refine wpList_load_row rfl 23 _ rfl w.heap.size rfl 23 (lg l) (0, 0) _ hgr Try.underlying23 rfl (lngIk h) ?_)
            | (with_reducible refine (HFC.out _).mono ?_; rintro e w4 ⟨rfl, hb4⟩
               have HO4 := Lib.hid (HO.out.on hb4)))
          go_returns
          exact ⟨none, 0, rfl, OwnS.nil _ _ _, (fun g e => by cases e), HB2.out.trans (HO4.out.bel.mono HB2.out.size)⟩
        · have HNX := Lib.hid (hxx.trans (hon rfl hk15))
          clear hxx hsm hfa hon HXX HFL
          go_wp2_with (first
            | (with_reducible refine hbc.mono ?_; rintro e w3 ⟨rfl, rfl⟩)
            | (refine wpList_load_row rfl 23 _ rfl w.heap.size rfl 23 (lg l) (0, 0) _ hgr Try.underlying23 rfl (lngIk h) ?_)
            | (with_reducible refine (HFC.out _).mono ?_; rintro e w4 ⟨rfl, hb4⟩
               have HO4 := Lib.hid (HO.out.on hb4)))
          exact ⟨⟨i + 1, k + 1, 2 * c + b, out, A, m, cc, by omega, by go_num, by go_num, by rfl, by omega, by omega, HC.out, rfl, HM.out, by omega, HO4.out, HNX.out⟩, by simp [intOf]; omega⟩
    · obtain rfl : i = M := by omega
      have hxx := HXX.out
      rw [List.drop_of_length_le (by rw [HBL.out]; exact Nat.le_refl _), rdS_end] at hxx
      by_cases hk0 : 0 < k
      · rw [if_pos hk0] at hxx
        have HNX := Lib.hid hxx
        have d0 : decide ((0 : Int) < (k : Int)) = true := decide_eq_true (by omega)
        obtain ⟨hR, hZ⟩ := HNONE.out HNX.out
        subst hR hZ
        clear hxx HXX
        go_wp2_with fail
        go_returns
        exact ⟨none, 0, rfl, OwnS.nil _ _ _, (fun g e => by cases e), HB2.out.trans (HO.out.bel.mono HB2.out.size)⟩
      · obtain rfl : k = 0 := by omega
        rw [if_neg hk0] at hxx
        obtain ⟨hR, hZ⟩ := HSOME.out out hxx
        subst hR hZ
        clear hxx HXX
        go_wp2_with fail
        go_returns
        exact ⟨A, cc, by rw [← HM.out]; rfl, HO.out.own, fun g e => Nat.le_trans HB2.out.size (HO.out.new g e), HB2.out.trans (HO.out.bel.mono HB2.out.size)⟩
end Go.Proofs.Ytnpohkaicfcidaa
