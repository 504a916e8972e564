/- One operation on an arena and on the reference: winepresslaw01.same. -/
import Derived.Test.YtipliponbcjgdaaADeeds
import Derived.Test.YtipliponbcjgdaaRef01b
import Derived.Deep.RegionHeld3
import Derived.Deep.DeepMust
set_option linter.unusedVariables false
set_option linter.unusedSimpArgs false
namespace Go.Proofs.Ytipliponbcjgdaa
open Go.RowKit

section
variable {w w' : World} {p q r s : Nat} {mem : List Int} {live peak : Nat}
theorem Ra.kp (k : Kp p q w w') (h : Ra w r s mem live peak) (h1 : r ≠ p) (h2 : r ≠ q) (h3 : s ≠ p) (h4 : s ≠ q) : Ra w' r s mem live peak :=
  ⟨k.row h.hp h1 h2, k.row h.hq h3 h4, h.ne, h.ll, h.pl, h.small, h.byts⟩
theorem Ar.kp (k : Kp r s w w') (h : Ar w p q mem live peak) (h1 : p ≠ r) (h2 : p ≠ s) (h3 : q ≠ r) (h4 : q ≠ s) : Ar w' p q mem live peak :=
  ⟨k.row h.hp h1 h2, k.row h.hq h3 h4, h.ne, h.ll, h.pl, h.small, h.byts⟩
end

/-- Four blocks apart. -/
structure Four (p q r s : Nat) : Prop where
  pr : p ≠ r
  ps : p ≠ s
  qr : q ≠ r
  qs : q ≠ s

/-- What a store leaves. -/
def memStore (mem : List Int) (live : Nat) (a n i : Int) (l : List Int) : List Int := if storeOk live a n i l.length then splice mem (a + i).toNat l else mem
section
variable {w : World} {p q : Nat} {mem : List Int} {live peak : Nat}
theorem store_call (h : Ar w p q mem live peak) (a n i : Int) (sp : Option Addr) (m c : Nat) (l : List Int) (hl : l.length = m) (hsp : Src w .u8 sp l) (hby : Byts l) (hn : n ≤ 9223372036854775807) :
    Calls Try.prog 23 #[.pointer (some ⟨p, 0, none⟩), .agg #[.int .i64 a, .int .i64 n], .int .i64 i, .slice sp m c] w fun e w' =>
      e = .returned (.bool (storeOk live a n i m)) ∧ Kp p q w w' ∧ Ar w' p q (memStore mem live a n i l) live peak := by
  subst hl
  unfold memStore
  by_cases hh : storeOk live a n i l.length = true
  · obtain ⟨a', n', i', rfl, rfl, rfl, h1, h2⟩ := storeOk_yes hh
    rw [if_pos hh, hh, show ((a' : Int) + (i' : Int)).toNat = a' + i' by omega]
    exact store_yes h a' n' i' sp _ c l rfl hsp hby (by unfold hasB; simp; omega) h1 h2
  · rw [if_neg hh, show storeOk live a n i l.length = false by simpa using hh]
    exact store_no h a n i sp _ c hn (by simpa using hh)
theorem rstore_call (h : Ra w p q mem live peak) (a n i : Int) (sp : Option Addr) (m c : Nat) (l : List Int) (hl : l.length = m) (hsp : Src w .u8 sp l) (hby : Byts l) (hn : n ≤ 9223372036854775807)
    (hsd : 0 < m → ∀ x, sp = some x → x.block < w.heap.size ∧ x.block ≠ p ∧ x.block ≠ q) :
    Calls Try.prog 30 #[.pointer (some ⟨p, 0, none⟩), .agg #[.int .i64 a, .int .i64 n], .int .i64 i, .slice sp m c] w fun e w' =>
      e = .returned (.bool (storeOk live a n i m)) ∧ Kp p q w w' ∧ Ra w' p q (memStore mem live a n i l) live peak := by
  subst hl
  unfold memStore
  by_cases hh : storeOk live a n i l.length = true
  · obtain ⟨a', n', i', rfl, rfl, rfl, h1, h2⟩ := storeOk_yes hh
    rw [if_pos hh, hh, show ((a' : Int) + (i' : Int)).toNat = a' + i' by omega]
    exact rstore_yes h a' n' i' sp _ c l rfl hsp hby hsd hh h1 h2
  · rw [if_neg hh, show storeOk live a n i l.length = false by simpa using hh]
    exact rstore_no h a n i sp _ c hn (by simpa using hh)
def relOk (live : Nat) (n : Int) : Bool := decide (0 ≤ n ∧ n ≤ live)
def relTo (live : Nat) (n : Int) : Nat := if relOk live n then n.toNat else live
theorem release_call (h : Ar w p q mem live peak) (n : Int) :
    Calls Try.prog 24 #[.pointer (some ⟨p, 0, none⟩), .int .i64 n] w fun e w' =>
      e = .returned (.bool (relOk live n)) ∧ Kp p q w w' ∧ Ar w' p q mem (relTo live n) peak := by
  unfold relTo
  by_cases hh : relOk live n = true
  · have h2 := of_decide_eq_true hh
    obtain ⟨n, rfl⟩ := Int.eq_ofNat_of_zero_le h2.1
    rw [if_pos hh, hh]
    exact release_yes h n (by omega)
  · rw [if_neg hh, show relOk live n = false by simpa using hh]
    exact release_no h n (fun e => hh (decide_eq_true e))
theorem rrelease_call (h : Ra w p q mem live peak) (n : Int) :
    Calls Try.prog 26 #[.pointer (some ⟨p, 0, none⟩), .int .i64 n] w fun e w' =>
      e = .returned (.bool (relOk live n)) ∧ Kp p q w w' ∧ Ra w' p q mem (relTo live n) peak := by
  unfold relTo
  by_cases hh : relOk live n = true
  · have h2 := of_decide_eq_true hh
    obtain ⟨n, rfl⟩ := Int.eq_ofNat_of_zero_le h2.1
    rw [if_pos hh, hh]
    exact rrelease_yes h n (by omega)
  · rw [if_neg hh, show relOk live n = false by simpa using hh]
    exact rrelease_no h n (fun e => hh (decide_eq_true e))
end

/-- Both are as one; nothing older than B has changed. -/
def SameP (w : World) (B p q r s n : Nat) (w' : World) : Prop := ∃ mem' live' peak', Ar w' p q mem' live' peak' ∧ Ra w' r s mem' live' peak' ∧ mem'.length = n ∧ Below B w w'
theorem Kp.bel {p q B : Nat} {w w' w'' : World} (k : Kp p q w' w'') (h : Below B w w') (hB : B ≤ w.heap.size) (hp : B ≤ p) (hq : B ≤ q) : Below B w w'' := h.trans (k.below (Nat.le_trans hB h.size) hp hq)
theorem Kp.box3 {p q b i1 i2 i3 : Nat} {v1 v2 v3 : Value} {W W' : World} (k : Kp p q W W') (hp : b ≠ p) (hq : b ≠ q)
    (h : W.cell? ⟨b, i1, none⟩ = some v1 ∧ W.cell? ⟨b, i2, none⟩ = some v2 ∧ W.cell? ⟨b, i3, none⟩ = some v3) : W'.cell? ⟨b, i1, none⟩ = some v1 ∧ W'.cell? ⟨b, i2, none⟩ = some v2 ∧ W'.cell? ⟨b, i3, none⟩ = some v3 :=
  ⟨k.cell h.1 hp hq, k.cell h.2.1 hp hq, k.cell h.2.2 hp hq⟩
theorem Kp.box4 {p q b i1 i2 i3 i4 : Nat} {v1 v2 v3 v4 : Value} {W W' : World} (k : Kp p q W W') (hp : b ≠ p) (hq : b ≠ q)
    (h : W.cell? ⟨b, i1, none⟩ = some v1 ∧ W.cell? ⟨b, i2, none⟩ = some v2 ∧ W.cell? ⟨b, i3, none⟩ = some v3 ∧ W.cell? ⟨b, i4, none⟩ = some v4) : W'.cell? ⟨b, i1, none⟩ = some v1 ∧ W'.cell? ⟨b, i2, none⟩ = some v2 ∧ W'.cell? ⟨b, i3, none⟩ = some v3 ∧ W'.cell? ⟨b, i4, none⟩ = some v4 :=
  ⟨k.cell h.1 hp hq, k.cell h.2.1 hp hq, k.cell h.2.2.1 hp hq, k.cell h.2.2.2 hp hq⟩
theorem Kp.src4 {p q B n : Nat} {w W W' : World} {sp : Option Addr} {l : List Int} (k : Kp p q W W') (hl : l.length = n) (hsd : 0 < n → ∀ x, sp = some x → x.block < B) (hB : B ≤ w.heap.size) (hb : Below B w W) (hs : Src W .u8 sp l) (hp : B ≤ p) (hq : B ≤ q) : Src W' .u8 sp l := by
  rcases hs with rfl | ⟨g, o, rfl, hc⟩
  · exact .inl rfl
  · by_cases h0 : 0 < n
    · have := hsd h0 _ rfl
      dsimp only at this
      exact .inr ⟨g, o, rfl, fun j hj => k.cell (hc j hj) (by simp; omega) (by simp; omega)⟩
    · exact .inl (List.eq_nil_of_length_eq_zero (by omega))
theorem memSet_length (mem : List Int) (live : Nat) (a n i c : Int) : (memSet mem live a n i c).length = mem.length := by
  unfold memSet
  split
  · rw [List.length_set]
  · rfl
theorem wordSet_length (mem : List Int) (live : Nat) (a n i v : Int) : (wordSet mem live a n i v).length = mem.length := by
  unfold wordSet wordPut
  split
  · simp
  · rfl
theorem memStore_length {w : World} {p q : Nat} {mem l : List Int} {live peak : Nat} {a n i : Int} (h : Ar w p q mem live peak) : (memStore mem live a n i l).length = mem.length := by
  unfold memStore
  split
  · rename_i hh
    obtain ⟨a', n', i', rfl, rfl, rfl, h1, h2⟩ := storeOk_yes hh
    have := h.ll
    exact splice_length _ _ _ (by omega)
  · rfl

section
variable {w : World} {p q r s : Nat} {mem : List Int} {live peak : Nat} {B : Nat}
theorem bool_same (b : Bool) : (b == b) = true := by simp

theorem boxed (w : World) (cs : Array Value) (T : TypeId) (i : Nat) (v : Value) (h : cs[i]? = some v) : ((w.alloc (.cells cs T)).drew).cell? ⟨w.heap.size, i, none⟩ = some v := by
  have := heap_alloc_new w (.cells cs T)
  show (w.alloc (.cells cs T)).cell? _ = _
  simp only [World.cell?, this]
  exact h

set_option maxRecDepth 100000 in
set_option maxHeartbeats 1000000 in
theorem same_rel (h : Ar w p q mem live peak) (h' : Ra w r s mem live peak) (hf : Four p q r s) (hB : B ≤ w.heap.size) (hp : B ≤ p) (hq : B ≤ q) (hr : B ≤ r) (hs : B ≤ s)
    (d : ADeed) (hok : OkA w d) (hdo : d.dov = 1) :
    Calls Try.prog 9 #[.pointer (some ⟨p, 0, none⟩), .pointer (some ⟨r, 0, none⟩), .agg d.cells.toArray] w fun e w' => e = .returned (.bool true) ∧ SameP w B p q r s mem.length w' := by
  obtain ⟨dov, nv, sa, sn, v, ba, bl, bc, bs⟩ := d
  dsimp only at hdo
  subst hdo
  obtain ⟨b, hb⟩ : ∃ b, b = w.heap.size := ⟨_, rfl⟩
  have hsn := hok.sn.2
  dsimp only at hsn
  have hb1 := h.plt
  have hb2 := h.qlt
  have hb3 := h'.plt
  have hb4 := h'.qlt
  have hlen := Lib.hid (rfl : mem.length = mem.length)
  have HF := Lib.hid hf
  show Calls Try.prog _ #[_, _, .agg #[.int .i64 1, .int .i64 nv, .int .i64 sa, .int .i64 sn, .int .u32 v, .slice ba bl bc]] _ _
  obtain ⟨W0, hW0⟩ : ∃ W, W = (w.alloc (.cells #[.int .i64 1, .int .i64 nv, .int .i64 sa, .int .i64 sn, .int .u32 v, .slice ba bl bc] 38)) := ⟨_, rfl⟩
  have hA0 : Ar W0.drew p q mem live peak := by rw [hW0]; exact (h.alloc _).drew
  have hR0 : Ra W0.drew r s mem live peak := by rw [hW0]; exact (h'.alloc _).drew
  have hK0 : Below B w W0.drew := by rw [hW0]; exact ((Below.refl _ _).alloc hB _).drew
  have hS0 : W0.drew.cell? ⟨b, 1, none⟩ = some (.int .i64 nv) := by
    rw [hW0, hb]
    exact boxed w _ _ 1 _ rfl
  clear h h' hok hf
  go_enter Try.func9, Try.ntmps9
  go_wp2_with fail
  rw [← hW0, ← hb]
  have n1 : b ≠ p := by omega
  have n2 : b ≠ q := by omega
  have n3 : b ≠ r := by omega
  have n4 : b ≠ s := by omega
  clear hW0 hb hb1 hb2 hb3 hb4
  go_region_held3 (fun W => W.cell? ⟨b, 1, none⟩ = some (.int .i64 nv)) (assumption) (first
    | (go_at_call 24; go_must (refine (release_call (mem := mem) (live := live) (peak := peak) (p := p) (q := q) (by assumption) nv).mono ?_; rintro e w6 ⟨rfl, kA, aA⟩; have rA := Ra.kp kA (by assumption) HF.out.pr.symm HF.out.qr.symm HF.out.ps.symm HF.out.qs.symm; have bA := kA.bel (by assumption) hB hp hq; have sA := kA.cell (a := ⟨b, 1, none⟩) (v := .int .i64 nv) (by assumption) n1 n2))
    | (go_at_call 26; go_must (refine (rrelease_call (mem := mem) (live := live) (peak := peak) (p := r) (q := s) (by assumption) nv).mono ?_; rintro e w7 ⟨rfl, kR, rR⟩; have aR := Ar.kp kR (by assumption) HF.out.pr HF.out.ps HF.out.qr HF.out.qs; have bR := kR.bel (by assumption) hB hr hs; have sR := kR.cell (a := ⟨b, 1, none⟩) (v := .int .i64 nv) (by assumption) n3 n4)))
  all_goals go_wp2
  all_goals go_ret
  all_goals exact ⟨rfl, _, _, _, by assumption, by assumption, by first | exact hlen.out | rfl, by assumption⟩

set_option maxRecDepth 100000 in
set_option maxHeartbeats 1000000 in
theorem same_set (h : Ar w p q mem live peak) (h' : Ra w r s mem live peak) (hf : Four p q r s) (hB : B ≤ w.heap.size) (hp : B ≤ p) (hq : B ≤ q) (hr : B ≤ r) (hs : B ≤ s)
    (d : ADeed) (hok : OkA w d) (hdo : d.dov = 2) :
    Calls Try.prog 9 #[.pointer (some ⟨p, 0, none⟩), .pointer (some ⟨r, 0, none⟩), .agg d.cells.toArray] w fun e w' => e = .returned (.bool true) ∧ SameP w B p q r s mem.length w' := by
  obtain ⟨dov, nv, sa, sn, v, ba, bl, bc, bs⟩ := d
  dsimp only at hdo
  subst hdo
  have hlc := hok.lc
  have hcm := hok.cm
  unfold maxLen at hcm
  dsimp only at hlc hcm
  obtain ⟨c, hc⟩ : ∃ c, c = (bl : Int) % 256 := ⟨_, rfl⟩
  have hc2 : 0 ≤ c ∧ c ≤ 255 := by omega
  obtain ⟨b, hb⟩ : ∃ b, b = w.heap.size := ⟨_, rfl⟩
  have hsn := hok.sn.2
  dsimp only at hsn
  have hb1 := h.plt
  have hb2 := h.qlt
  have hb3 := h'.plt
  have hb4 := h'.qlt
  have hlen := Lib.hid (memSet_length mem live sa sn nv c)
  have HF := Lib.hid hf
  show Calls Try.prog _ #[_, _, .agg #[.int .i64 2, .int .i64 nv, .int .i64 sa, .int .i64 sn, .int .u32 v, .slice ba bl bc]] _ _
  obtain ⟨W0, hW0⟩ : ∃ W, W = (w.alloc (.cells #[.int .i64 2, .int .i64 nv, .int .i64 sa, .int .i64 sn, .int .u32 v, .slice ba bl bc] 38)) := ⟨_, rfl⟩
  have hA0 : Ar W0.drew p q mem live peak := by rw [hW0]; exact (h.alloc _).drew
  have hR0 : Ra W0.drew r s mem live peak := by rw [hW0]; exact (h'.alloc _).drew
  have hK0 : Below B w W0.drew := by rw [hW0]; exact ((Below.refl _ _).alloc hB _).drew
  have hS0 : W0.drew.cell? ⟨b, 1, none⟩ = some (.int .i64 nv) ∧ W0.drew.cell? ⟨b, 2, none⟩ = some (.int .i64 sa) ∧ W0.drew.cell? ⟨b, 3, none⟩ = some (.int .i64 sn) := by
    rw [hW0, hb]
    exact ⟨boxed w _ _ 1 _ rfl, boxed w _ _ 2 _ rfl, boxed w _ _ 3 _ rfl⟩
  clear h h' hok hf
  go_enter Try.func9, Try.ntmps9
  go_wp2_with fail
  rw [← hc, ← hW0, ← hb]
  have n1 : b ≠ p := by omega
  have n2 : b ≠ q := by omega
  have n3 : b ≠ r := by omega
  have n4 : b ≠ s := by omega
  clear hc hW0 hb hb1 hb2 hb3 hb4
  go_region_held3 (fun W => W.cell? ⟨b, 1, none⟩ = some (.int .i64 nv) ∧ W.cell? ⟨b, 2, none⟩ = some (.int .i64 sa) ∧ W.cell? ⟨b, 3, none⟩ = some (.int .i64 sn)) (assumption) (first
    | (go_at_call 27; go_must (refine (setByte_call (mem := mem) (live := live) (peak := peak) (p := p) (q := q) (by assumption) sa sn nv c hsn hc2).mono ?_; rintro e w6 ⟨rfl, kA, aA⟩; have rA := Ra.kp kA (by assumption) HF.out.pr.symm HF.out.qr.symm HF.out.ps.symm HF.out.qs.symm; have bA := kA.bel (by assumption) hB hp hq; have sA := kA.box3 n1 n2 (by assumption)))
    | (go_at_call 28; go_must (refine (rsetByte_call (mem := mem) (live := live) (peak := peak) (p := r) (q := s) (by assumption) sa sn nv c hsn hc2).mono ?_; rintro e w7 ⟨rfl, kR, rR⟩; have aR := Ar.kp kR (by assumption) HF.out.pr HF.out.ps HF.out.qr HF.out.qs; have bR := kR.bel (by assumption) hB hr hs; have sR := kR.box3 n3 n4 (by assumption))))
  all_goals go_wp2
  all_goals go_ret
  all_goals exact ⟨rfl, _, _, _, by assumption, by assumption, by first | exact hlen.out | rfl, by assumption⟩

set_option maxRecDepth 100000 in
set_option maxHeartbeats 1000000 in
theorem same_word (h : Ar w p q mem live peak) (h' : Ra w r s mem live peak) (hf : Four p q r s) (hB : B ≤ w.heap.size) (hp : B ≤ p) (hq : B ≤ q) (hr : B ≤ r) (hs : B ≤ s)
    (d : ADeed) (hok : OkA w d) (hdo : d.dov = 3) :
    Calls Try.prog 9 #[.pointer (some ⟨p, 0, none⟩), .pointer (some ⟨r, 0, none⟩), .agg d.cells.toArray] w fun e w' => e = .returned (.bool true) ∧ SameP w B p q r s mem.length w' := by
  obtain ⟨dov, nv, sa, sn, v, ba, bl, bc, bs⟩ := d
  dsimp only at hdo
  subst hdo
  have hv0 := hok.v.1
  have hv1 := hok.v.2
  dsimp only at hv0 hv1
  obtain ⟨b, hb⟩ : ∃ b, b = w.heap.size := ⟨_, rfl⟩
  have hsn := hok.sn.2
  dsimp only at hsn
  have hb1 := h.plt
  have hb2 := h.qlt
  have hb3 := h'.plt
  have hb4 := h'.qlt
  have hlen := Lib.hid (wordSet_length mem live sa sn nv v)
  have HF := Lib.hid hf
  show Calls Try.prog _ #[_, _, .agg #[.int .i64 3, .int .i64 nv, .int .i64 sa, .int .i64 sn, .int .u32 v, .slice ba bl bc]] _ _
  obtain ⟨W0, hW0⟩ : ∃ W, W = (w.alloc (.cells #[.int .i64 3, .int .i64 nv, .int .i64 sa, .int .i64 sn, .int .u32 v, .slice ba bl bc] 38)) := ⟨_, rfl⟩
  have hA0 : Ar W0.drew p q mem live peak := by rw [hW0]; exact (h.alloc _).drew
  have hR0 : Ra W0.drew r s mem live peak := by rw [hW0]; exact (h'.alloc _).drew
  have hK0 : Below B w W0.drew := by rw [hW0]; exact ((Below.refl _ _).alloc hB _).drew
  have hS0 : W0.drew.cell? ⟨b, 1, none⟩ = some (.int .i64 nv) ∧ W0.drew.cell? ⟨b, 2, none⟩ = some (.int .i64 sa) ∧ W0.drew.cell? ⟨b, 3, none⟩ = some (.int .i64 sn) ∧ W0.drew.cell? ⟨b, 4, none⟩ = some (.int .u32 v) := by
    rw [hW0, hb]
    exact ⟨boxed w _ _ 1 _ rfl, boxed w _ _ 2 _ rfl, boxed w _ _ 3 _ rfl, boxed w _ _ 4 _ rfl⟩
  clear h h' hok hf
  go_enter Try.func9, Try.ntmps9
  go_wp2_with fail
  rw [← hW0, ← hb]
  have n1 : b ≠ p := by omega
  have n2 : b ≠ q := by omega
  have n3 : b ≠ r := by omega
  have n4 : b ≠ s := by omega
  clear hW0 hb hb1 hb2 hb3 hb4
  go_region_held3 (fun W => W.cell? ⟨b, 1, none⟩ = some (.int .i64 nv) ∧ W.cell? ⟨b, 2, none⟩ = some (.int .i64 sa) ∧ W.cell? ⟨b, 3, none⟩ = some (.int .i64 sn) ∧ W.cell? ⟨b, 4, none⟩ = some (.int .u32 v)) (assumption) (first
    | (go_at_call 22; go_must (refine (setWord_call (mem := mem) (live := live) (peak := peak) (p := p) (q := q) (by assumption) sa sn nv v hv0 hv1 hsn).mono ?_; rintro e w6 ⟨rfl, kA, aA⟩; have rA := Ra.kp kA (by assumption) HF.out.pr.symm HF.out.qr.symm HF.out.ps.symm HF.out.qs.symm; have bA := kA.bel (by assumption) hB hp hq; have sA := kA.box4 n1 n2 (by assumption)))
    | (go_at_call 29; go_must (refine (rsetWord_call (mem := mem) (live := live) (peak := peak) (p := r) (q := s) (by assumption) sa sn nv v hv0 hv1 hsn).mono ?_; rintro e w7 ⟨rfl, kR, rR⟩; have aR := Ar.kp kR (by assumption) HF.out.pr HF.out.ps HF.out.qr HF.out.qs; have bR := kR.bel (by assumption) hB hr hs; have sR := kR.box4 n3 n4 (by assumption))))
  all_goals go_wp2
  all_goals go_ret
  all_goals exact ⟨rfl, _, _, _, by assumption, by assumption, by first | exact hlen.out | rfl, by assumption⟩

set_option maxRecDepth 100000 in
set_option maxHeartbeats 1000000 in
theorem same_store (h : Ar w p q mem live peak) (h' : Ra w r s mem live peak) (hf : Four p q r s) (hB : B ≤ w.heap.size) (hp : B ≤ p) (hq : B ≤ q) (hr : B ≤ r) (hs : B ≤ s)
    (d : ADeed) (hok : OkA w d) (hdo : d.dov ≠ 0 ∧ d.dov ≠ 1 ∧ d.dov ≠ 2 ∧ d.dov ≠ 3) (hsd : 0 < d.bl → ∀ x, d.ba = some x → x.block < B) :
    Calls Try.prog 9 #[.pointer (some ⟨p, 0, none⟩), .pointer (some ⟨r, 0, none⟩), .agg d.cells.toArray] w fun e w' => e = .returned (.bool true) ∧ SameP w B p q r s mem.length w' := by
  obtain ⟨dov, nv, sa, sn, v, ba, bl, bc, bs⟩ := d
  dsimp only at hdo hsd
  obtain ⟨hd0, hd1, hd2, hd3⟩ := hdo
  have HL := Lib.hid hok.len
  have HY := Lib.hid hok.byts
  have HSD := Lib.hid hsd
  have hsrc := hok.src
  dsimp only at HL HY hsrc
  have e0 : (dov == 0) = false := by simpa using hd0
  have e1 : (dov == 1) = false := by simpa using hd1
  have e2 : (dov == 2) = false := by simpa using hd2
  have e3 : (dov == 3) = false := by simpa using hd3
  clear hsd
  obtain ⟨b, hb⟩ : ∃ b, b = w.heap.size := ⟨_, rfl⟩
  have hsn := hok.sn.2
  dsimp only at hsn
  have hb1 := h.plt
  have hb2 := h.qlt
  have hb3 := h'.plt
  have hb4 := h'.qlt
  have hlen := Lib.hid (memStore_length (a := sa) (n := sn) (i := nv) (l := bs) h)
  have HF := Lib.hid hf
  show Calls Try.prog _ #[_, _, .agg #[.int .i64 dov, .int .i64 nv, .int .i64 sa, .int .i64 sn, .int .u32 v, .slice ba bl bc]] _ _
  obtain ⟨W0, hW0⟩ : ∃ W, W = (w.alloc (.cells #[.int .i64 dov, .int .i64 nv, .int .i64 sa, .int .i64 sn, .int .u32 v, .slice ba bl bc] 38)) := ⟨_, rfl⟩
  have hA0 : Ar W0.drew p q mem live peak := by rw [hW0]; exact (h.alloc _).drew
  have hR0 : Ra W0.drew r s mem live peak := by rw [hW0]; exact (h'.alloc _).drew
  have hK0 : Below B w W0.drew := by rw [hW0]; exact ((Below.refl _ _).alloc hB _).drew
  have hs0 : Src W0.drew .u8 ba bs := by rw [hW0]; exact hsrc.below ((Below.refl _ _).alloc (Nat.le_refl _) _).drew
  have hS0 : W0.drew.cell? ⟨b, 1, none⟩ = some (.int .i64 nv) ∧ W0.drew.cell? ⟨b, 2, none⟩ = some (.int .i64 sa) ∧ W0.drew.cell? ⟨b, 3, none⟩ = some (.int .i64 sn) ∧ W0.drew.cell? ⟨b, 5, none⟩ = some (.slice ba bl bc) := by
    rw [hW0, hb]
    exact ⟨boxed w _ _ 1 _ rfl, boxed w _ _ 2 _ rfl, boxed w _ _ 3 _ rfl, boxed w _ _ 5 _ rfl⟩
  clear h h' hok hf
  go_enter Try.func9, Try.ntmps9
  go_wp2_with fail
  rw [← hW0, ← hb]
  have n1 : b ≠ p := by omega
  have n2 : b ≠ q := by omega
  have n3 : b ≠ r := by omega
  have n4 : b ≠ s := by omega
  clear hW0 hb
  go_region_held3 (fun W => W.cell? ⟨b, 1, none⟩ = some (.int .i64 nv) ∧ W.cell? ⟨b, 2, none⟩ = some (.int .i64 sa) ∧ W.cell? ⟨b, 3, none⟩ = some (.int .i64 sn) ∧ W.cell? ⟨b, 5, none⟩ = some (.slice ba bl bc)) (assumption) (first
    | (go_at_call 23; go_must (refine (store_call (mem := mem) (live := live) (peak := peak) (p := p) (q := q) (by assumption) sa sn nv ba bl bc bs HL.out (by assumption) HY.out hsn).mono ?_; rintro e w6 ⟨rfl, kA, aA⟩; have rA := Ra.kp kA (by assumption) HF.out.pr.symm HF.out.qr.symm HF.out.ps.symm HF.out.qs.symm; have bA := kA.bel (by assumption) hB hp hq; have sA := kA.box4 n1 n2 (by assumption); have qA := kA.src4 HL.out HSD.out hB (by assumption) (by assumption) (by omega) (by omega)))
    | (go_at_call 30; go_must (refine (rstore_call (mem := mem) (live := live) (peak := peak) (p := r) (q := s) (by assumption) sa sn nv ba bl bc bs HL.out (by assumption) HY.out hsn (fun h0 x hx => ⟨Nat.lt_of_lt_of_le (HSD.out h0 x hx) (Nat.le_trans hB (by rename Below B w _ => hz; exact hz.size)), by have := HSD.out h0 x hx; omega, by have := HSD.out h0 x hx; omega⟩)).mono ?_; rintro e w7 ⟨rfl, kR, rR⟩; have aR := Ar.kp kR (by assumption) HF.out.pr HF.out.ps HF.out.qr HF.out.qs; have bR := kR.bel (by assumption) hB hr hs; have sR := kR.box4 n3 n4 (by assumption); have qA := kR.src4 HL.out HSD.out hB (by assumption) (by assumption) (by omega) (by omega))))
  all_goals go_wp2
  all_goals go_ret
  all_goals exact ⟨rfl, _, _, _, by assumption, by assumption, by first | exact hlen.out | rfl, by assumption⟩

set_option maxRecDepth 100000 in
set_option maxHeartbeats 1000000 in
theorem same_take (h : Ar w p q mem live peak) (h' : Ra w r s mem live peak) (hf : Four p q r s) (hB : B ≤ w.heap.size) (hp : B ≤ p) (hq : B ≤ q) (hr : B ≤ r) (hs : B ≤ s)
    (d : ADeed) (hok : OkA w d) (hdo : d.dov = 0) :
    Calls Try.prog 9 #[.pointer (some ⟨p, 0, none⟩), .pointer (some ⟨r, 0, none⟩), .agg d.cells.toArray] w fun e w' => e = .returned (.bool true) ∧ SameP w B p q r s mem.length w' := by
  obtain ⟨dov, nv, sa, sn, v, ba, bl, bc, bs⟩ := d
  dsimp only at hdo
  subst hdo
  have hb1 := h.plt
  have hb2 := h.qlt
  have hb3 := h'.plt
  have hb4 := h'.qlt
  have HF := Lib.hid hf
  show Calls Try.prog _ #[_, _, .agg #[.int .i64 0, .int .i64 nv, .int .i64 sa, .int .i64 sn, .int .u32 v, .slice ba bl bc]] _ _
  have hA0 := h.alloc (.cells #[.int .i64 0, .int .i64 nv, .int .i64 sa, .int .i64 sn, .int .u32 v, .slice ba bl bc] 38)
  have hR0 := h'.alloc (.cells #[.int .i64 0, .int .i64 nv, .int .i64 sa, .int .i64 sn, .int .u32 v, .slice ba bl bc] 38)
  have hS0 := boxed w #[.int .i64 0, .int .i64 nv, .int .i64 sa, .int .i64 sn, .int .u32 v, .slice ba bl bc] 38 1 _ rfl
  have hb0 := ((Below.refl _ w).alloc hB (.cells #[.int .i64 0, .int .i64 nv, .int .i64 sa, .int .i64 sn, .int .u32 v, .slice ba bl bc] 38))
  obtain ⟨W0, hW0⟩ : ∃ W, W = (w.alloc (.cells #[.int .i64 0, .int .i64 nv, .int .i64 sa, .int .i64 sn, .int .u32 v, .slice ba bl bc] 38)) := ⟨_, rfl⟩
  rw [← hW0] at hA0 hR0 hS0 hb0
  clear h h' hok hf
  obtain ⟨b, hb⟩ : ∃ b, b = w.heap.size := ⟨_, rfl⟩
  rw [← hb] at hS0
  have n1 : b ≠ p := by omega
  have n2 : b ≠ q := by omega
  have n3 : b ≠ r := by omega
  have n4 : b ≠ s := by omega
  by_cases hn : nv < 0
  · go_enter Try.func9, Try.ntmps9
    go_wp2_with fail
    rw [← hW0, ← hb]
    refine (take_neg _ p nv hn).mono ?_
    rintro e w1 ⟨rfl, hb1'⟩
    have k1 : Kp p q W0 w1 := Kp.of_below hb1'
    have a1 := hA0.below hb1'
    clear hb1'
    have c1 : w1.cell? ⟨b, 1, none⟩ = some (.int .i64 nv) := k1.cell hS0 n1 n2
    have l1 : b < w1.heap.size := World.block_lt_of_cell? _ _ c1
    have r1 := Ra.kp k1 hR0 HF.out.pr.symm HF.out.qr.symm HF.out.ps.symm HF.out.qs.symm
    have b1 := k1.bel hb0 hB hp hq
    have lr := r1.plt
    have ls := r1.qlt
    clear hA0 hR0 hS0 hW0 hb k1
    go_wp2_with fail
    have r2 := r1.alloc (.cells #[.int .i64 0, .int .i64 0] 34)
    have d0 := boxed w1 #[.int .i64 0, .int .i64 0] 34 0 _ rfl
    have d1 := boxed w1 #[.int .i64 0, .int .i64 0] 34 1 _ rfl
    refine (rtake_neg _ r nv hn).mono ?_
    rintro e w2 ⟨rfl, hb2'⟩
    have k2 : Kp r s _ w2 := Kp.of_below hb2'
    have RR := r2.below hb2'
    clear hb2'
    have e0 : w2.cell? ⟨w1.heap.size, 0, none⟩ = some (.int .i64 0) := k2.cell d0 (by simp; omega) (by simp; omega)
    have e1 : w2.cell? ⟨w1.heap.size, 1, none⟩ = some (.int .i64 0) := k2.cell d1 (by simp; omega) (by simp; omega)
    have l2 : w1.heap.size < w2.heap.size := World.block_lt_of_cell? _ _ e0
    have a2 := Ar.kp ((Kp.alloc r s w1 (.cells #[.int .i64 0, .int .i64 0] 34)).trans k2) a1 HF.out.pr HF.out.ps HF.out.qr HF.out.qs
    have b2 := ((Kp.alloc r s w1 (.cells #[.int .i64 0, .int .i64 0] 34)).trans k2).bel b1 hB hr hs
    clear a1 b1 r1 r2 d0 d1 k2 c1
    go_wp2_with fail
    go_ret
    exact ⟨rfl, _, _, _, a2.alloc _, RR.alloc _, rfl, b2.alloc (Nat.le_trans hB b2.size) _⟩
  · by_cases hfl : (mem.length : Int) - live < nv
    · go_enter Try.func9, Try.ntmps9
      go_wp2_with fail
      rw [← hW0, ← hb]
      refine (take_full hA0 nv (by omega) hfl).mono ?_
      rintro e w1 ⟨rfl, hb1'⟩
      have k1 : Kp p q W0 w1 := Kp.of_below hb1'
      have a1 := hA0.below hb1'
      clear hb1'
      have c1 : w1.cell? ⟨b, 1, none⟩ = some (.int .i64 nv) := k1.cell hS0 n1 n2
      have l1 : b < w1.heap.size := World.block_lt_of_cell? _ _ c1
      have r1 := Ra.kp k1 hR0 HF.out.pr.symm HF.out.qr.symm HF.out.ps.symm HF.out.qs.symm
      have b1 := k1.bel hb0 hB hp hq
      have lr := r1.plt
      have ls := r1.qlt
      clear hA0 hR0 hS0 hW0 hb k1
      go_wp2_with fail
      have r2 := r1.alloc (.cells #[.int .i64 0, .int .i64 0] 34)
      have d0 := boxed w1 #[.int .i64 0, .int .i64 0] 34 0 _ rfl
      have d1 := boxed w1 #[.int .i64 0, .int .i64 0] 34 1 _ rfl
      refine (rtake_full r2 nv (by omega) hfl).mono ?_
      rintro e w2 ⟨rfl, hb2'⟩
      have k2 : Kp r s _ w2 := Kp.of_below hb2'
      have RR := r2.below hb2'
      clear hb2'
      have e0 : w2.cell? ⟨w1.heap.size, 0, none⟩ = some (.int .i64 0) := k2.cell d0 (by simp; omega) (by simp; omega)
      have e1 : w2.cell? ⟨w1.heap.size, 1, none⟩ = some (.int .i64 0) := k2.cell d1 (by simp; omega) (by simp; omega)
      have l2 : w1.heap.size < w2.heap.size := World.block_lt_of_cell? _ _ e0
      have a2 := Ar.kp ((Kp.alloc r s w1 (.cells #[.int .i64 0, .int .i64 0] 34)).trans k2) a1 HF.out.pr HF.out.ps HF.out.qr HF.out.qs
      have b2 := ((Kp.alloc r s w1 (.cells #[.int .i64 0, .int .i64 0] 34)).trans k2).bel b1 hB hr hs
      clear a1 b1 r1 r2 d0 d1 k2 c1
      go_wp2_with fail
      go_ret
      exact ⟨rfl, _, _, _, a2.alloc _, RR.alloc _, rfl, b2.alloc (Nat.le_trans hB b2.size) _⟩
    · obtain ⟨n, rfl⟩ := Int.eq_ofNat_of_zero_le (Int.not_lt.1 hn)
      clear hn
      go_enter Try.func9, Try.ntmps9
      go_wp2_with fail
      rw [← hW0, ← hb]
      refine (take_yes hA0 n (by omega)).mono ?_
      rintro e w1 ⟨rfl, k1, a1⟩
      have c1 : w1.cell? ⟨b, 1, none⟩ = some (.int .i64 (n : Int)) := k1.cell hS0 n1 n2
      have l1 : b < w1.heap.size := World.block_lt_of_cell? _ _ c1
      have r1 := Ra.kp k1 hR0 HF.out.pr.symm HF.out.qr.symm HF.out.ps.symm HF.out.qs.symm
      have b1 := k1.bel hb0 hB hp hq
      have lr := r1.plt
      have ls := r1.qlt
      clear hA0 hR0 hS0 hW0 hb k1
      go_wp2_with fail
      have r2 := r1.alloc (.cells #[.int .i64 live, .int .i64 n] 34)
      have d0 := boxed w1 #[.int .i64 live, .int .i64 n] 34 0 _ rfl
      have d1 := boxed w1 #[.int .i64 live, .int .i64 n] 34 1 _ rfl
      refine (rtake_yes r2 n (by omega)).mono ?_
      rintro e w2 ⟨rfl, k2, RR⟩
      have e0 : w2.cell? ⟨w1.heap.size, 0, none⟩ = some (.int .i64 live) := k2.cell d0 (by simp; omega) (by simp; omega)
      have e1 : w2.cell? ⟨w1.heap.size, 1, none⟩ = some (.int .i64 n) := k2.cell d1 (by simp; omega) (by simp; omega)
      have l2 : w1.heap.size < w2.heap.size := World.block_lt_of_cell? _ _ e0
      have a2 := Ar.kp ((Kp.alloc r s w1 (.cells #[.int .i64 live, .int .i64 n] 34)).trans k2) a1 HF.out.pr HF.out.ps HF.out.qr HF.out.qs
      have b2 := ((Kp.alloc r s w1 (.cells #[.int .i64 live, .int .i64 n] 34)).trans k2).bel b1 hB hr hs
      clear a1 b1 r1 r2 d0 d1 k2 c1
      go_wp2_with fail
      go_ret
      exact ⟨rfl, _, _, _, a2.alloc _, RR.alloc _, splice_length _ _ _ (by rw [List.length_replicate]; omega), b2.alloc (Nat.le_trans hB b2.size) _⟩

/-- One operation on both. -/
theorem same_call (h : Ar w p q mem live peak) (h' : Ra w r s mem live peak) (hf : Four p q r s) (hB : B ≤ w.heap.size) (hp : B ≤ p) (hq : B ≤ q) (hr : B ≤ r) (hs : B ≤ s)
    (d : ADeed) (hok : OkA w d) (hsd : 0 < d.bl → ∀ x, d.ba = some x → x.block < B) :
    Calls Try.prog 9 #[.pointer (some ⟨p, 0, none⟩), .pointer (some ⟨r, 0, none⟩), .agg d.cells.toArray] w fun e w' => e = .returned (.bool true) ∧ SameP w B p q r s mem.length w' := by
  by_cases h0 : d.dov = 0
  · exact same_take h h' hf hB hp hq hr hs d hok h0
  by_cases h1 : d.dov = 1
  · exact same_rel h h' hf hB hp hq hr hs d hok h1
  by_cases h2 : d.dov = 2
  · exact same_set h h' hf hB hp hq hr hs d hok h2
  by_cases h3 : d.dov = 3
  · exact same_word h h' hf hB hp hq hr hs d hok h3
  exact same_store h h' hf hB hp hq hr hs d hok ⟨h0, h1, h2, h3⟩ hsd
end
end Go.Proofs.Ytipliponbcjgdaa
