/- Package bitreader: the reader in memory; New, begun, Left, Used, Ended, End, use. -/
import Derived.Test.YtjbbbojbjholfaaWin
import Derived.Test.YtjbbbojbjholfaaBits
import Derived.Test.YtjbbbojbjholfaaProg
import Derived.RegionTactic
import Derived.Deep.RegionHeld3
import Derived.Deep.DeepMust
set_option linter.unusedVariables false
set_option linter.unusedSimpArgs false
namespace Go.Proofs.Ytjbbbojbjholfaa
open Go.RowKit

/-- A reader in memory: its struct is block p; the bytes f were fed, u bits are used, e: ended. -/
structure Rd (w : World) (p : Nat) (a : Option Addr) (c : Nat) (f : List Int) (u : Nat) (e : Bool) : Prop where
  hp : w.heap[p]? = some (.cells #[.slice a (f.length - u / 8) c, .int .i64 u, .bool e] 52 (0, 0))
  row : WinS w .u8 5 a c (f.drop (u / 8))
  byts : ∀ x ∈ f, 0 ≤ x ∧ x ≤ 255
  le : u ≤ 8 * f.length
  small : f.length ≤ 1000000
/-- The blocks of a reader. -/
def Rp (p : Nat) (a : Option Addr) : Nat → Prop := fun k => k = p ∨ blk a = some k
section
variable {w w' : World} {p : Nat} {a : Option Addr} {c : Nat} {f : List Int} {u : Nat} {e : Bool}
theorem Rd.ne (h : Rd w p a c f u e) {g : Nat} (hg : blk a = some g) : g ≠ p := by
  rintro rfl
  obtain ⟨cur, h1⟩ := h.row.row hg
  have h2 := h.hp
  rw [h1] at h2
  injection h2 with h2
  injection h2 with _ h2
  revert h2
  decide
theorem Rd.plt (h : Rd w p a c f u e) : p < w.heap.size := (Array.getElem?_eq_some_iff.1 h.hp).1
theorem Rd.fpLt (h : Rd w p a c f u e) {k : Nat} (hk : Rp p a k) : k < w.heap.size := by
  rcases hk with rfl | hk
  · exact h.plt
  · exact h.row.lt hk
theorem Rd.c0 (h : Rd w p a c f u e) : w.cell? ⟨p, 0, none⟩ = some (.slice a (f.length - u / 8) c) := by simp [World.cell?, h.hp]
theorem Rd.c1 (h : Rd w p a c f u e) : w.cell? ⟨p, 1, none⟩ = some (.int .i64 u) := by simp [World.cell?, h.hp]
theorem Rd.c2 (h : Rd w p a c f u e) : w.cell? ⟨p, 2, none⟩ = some (.bool e) := by simp [World.cell?, h.hp]
theorem Rd.fz (h : Rd w p a c f u e) (i : Nat) : w.frozen? ⟨p, i, none⟩ = false := by simp [World.frozen?, h.hp]
theorem Rd.ch {S : Nat → Prop} (h : Rd w p a c f u e) (hc : Ch S w w') (hn : ∀ k, Rp p a k → ¬ S k) : Rd w' p a c f u e :=
  ⟨hc.heap h.hp (hn p (.inl rfl)), h.row.ch hc (fun g hg => hn g (.inr hg)), h.byts, h.le, h.small⟩
theorem Rd.below (h : Rd w p a c f u e) (hb : Below w.heap.size w w') : Rd w' p a c f u e := h.ch (Ch.of_below (S := fun _ => False) hb) (fun _ _ e => e)
theorem Rd.alloc (h : Rd w p a c f u e) (o : Obj) : Rd (w.alloc o) p a c f u e := h.below ((Below.refl _ _).alloc (Nat.le_refl _) _)
theorem Rd.drew (h : Rd w p a c f u e) : Rd w.drew p a c f u e := ⟨h.hp, h.row, h.byts, h.le, h.small⟩
theorem Rd.drewN (h : Rd w p a c f u e) (n : Nat) : Rd (w.drewN n) p a c f u e := ⟨h.hp, h.row, h.byts, h.le, h.small⟩
end
theorem set0of3 {w : World} {p : Nat} {a b d u : Value} {t : TypeId} (h : w.heap[p]? = some (.cells #[a, b, d] t (0, 0))) : (w.setCell ⟨p, 0, none⟩ u).heap[p]? = some (.cells #[u, b, d] t (0, 0)) := by
  simp [World.setCell, Array.getElem?_modify, h]
theorem set1of3 {w : World} {p : Nat} {a b d u : Value} {t : TypeId} (h : w.heap[p]? = some (.cells #[a, b, d] t (0, 0))) : (w.setCell ⟨p, 1, none⟩ u).heap[p]? = some (.cells #[a, u, d] t (0, 0)) := by
  simp [World.setCell, Array.getElem?_modify, h]
theorem set2of3 {w : World} {p : Nat} {a b d u : Value} {t : TypeId} (h : w.heap[p]? = some (.cells #[a, b, d] t (0, 0))) : (w.setCell ⟨p, 2, none⟩ u).heap[p]? = some (.cells #[a, b, u] t (0, 0)) := by
  simp [World.setCell, Array.getElem?_modify, h]

theorem sliceT : Try.prog.underlying 28 = some (.slice 5) := Try.underlying28
theorem byteI : (Try.prog.info? 5).map (fun i => (i.zero, i.size, i.bytes)) = some (some (.int .u8 0), 1, 1) := by kernel_rfl

set_option maxHeartbeats 400000 in
theorem new_call (w : World) :
    Calls Try.prog 10 #[] w fun e w' => e = .returned (.pointer (some ⟨w.heap.size, 0, none⟩)) ∧ Rd w' w.heap.size none 0 [] 0 false ∧ Below w.heap.size w w' := by
  go_enter Try.func10, Try.ntmps10
  go_wp2
  go_ret
  exact ⟨rfl, ⟨heap_alloc_new w _, WinS.nil _ _ _, by simp, by simp, by simp⟩, (Below.refl _ _).alloc (Nat.le_refl _) _⟩

section
variable {w : World} {p : Nat} {a : Option Addr} {c : Nat} {f : List Int} {u : Nat} {e : Bool}
set_option maxHeartbeats 400000 in
theorem begun_call (h : Rd w p a c f u e) :
    Calls Try.prog 27 #[.pointer (some ⟨p, 0, none⟩)] w fun x w' => x = .returned (.int .i64 (u % 8 : Nat)) ∧ w = w' := by
  have h1 := h.c1
  have hs := h.small
  have hl := h.le
  clear h
  go_enter Try.func27, Try.ntmps27
  go_wp2
  go_ret
  exact ⟨rfl, rfl⟩

set_option maxHeartbeats 400000 in
theorem used_call (h : Rd w p a c f u e) :
    Calls Try.prog 22 #[.pointer (some ⟨p, 0, none⟩)] w fun x w' => x = .returned (.int .i64 u) ∧ w = w' := by
  have h1 := h.c1
  clear h
  go_enter Try.func22, Try.ntmps22
  go_wp2
  go_ret
  exact ⟨rfl, rfl⟩
theorem ended_call (h : Rd w p a c f u e) :
    Calls Try.prog 23 #[.pointer (some ⟨p, 0, none⟩)] w fun x w' => x = .returned (.bool e) ∧ w = w' := by
  have h1 := h.c2
  clear h
  go_enter Try.func23, Try.ntmps23
  go_wp2
  go_ret
  exact ⟨rfl, rfl⟩
theorem left_nil (w : World) :
    Calls Try.prog 20 #[.pointer none] w fun x w' => x = .returned (.int .i64 0) ∧ w = w' := by
  go_enter Try.func20, Try.ntmps20
  go_wp2
  go_ret
  exact ⟨rfl, rfl⟩

set_option maxHeartbeats 400000 in
theorem left_call (h : Rd w p a c f u e) (n : Nat) (hn : u + n = 8 * f.length) :
    Calls Try.prog 20 #[.pointer (some ⟨p, 0, none⟩)] w fun x w' => x = .returned (.int .i64 n) ∧ Below w.heap.size w w' := by
  have h0 := h.c0
  have hs := h.small
  have hl := h.le
  have H := Lib.hid h
  have HN := Lib.hid hn
  clear h
  obtain ⟨m, hm⟩ : ∃ m, m = f.length - u / 8 := ⟨_, rfl⟩
  rw [← hm] at h0
  have hm2 : m ≤ 1000000 := by omega
  have HM := Lib.hid hm
  clear hm hn
  go_enter Try.func20, Try.ntmps20
  go_wp2
  have hw8 : IntKind.i64.wrap (8 * (m : Int)) = 8 * (m : Int) := IntWalk.i64_in _ (by omega)
  have hw9 : IntKind.i64.wrap (8 * (m : Int) - (u : Int) % 8) = 8 * (m : Int) - (u : Int) % 8 := IntWalk.i64_in _ (by omega)
  have hS0 : w.drew.cell? ⟨p, 0, none⟩ = some (.slice a m c) := h0
  go_region_held3 (fun W => W.cell? ⟨p, 0, none⟩ = some (.slice a m c)) (exact hS0) ((go_at_call 27; go_must (refine (begun_call H.out.drew).mono ?_; rintro e w' ⟨rfl, rfl⟩)))
  go_wp2
  go_ret
  exact ⟨congrArg (fun x => Ending.returned (.int .i64 x)) (by have := HM.out; have := HN.out; omega), (Below.refl _ _).drew⟩

theorem end_call (h : Rd w p a c f u e) :
    Calls Try.prog 19 #[.pointer (some ⟨p, 0, none⟩)] w fun x w' => x = .returned (.bool (!e)) ∧ Rd w' p a c f u true ∧ Ch (Rp p a) w w' := by
  have h2 := h.c2
  have hf := h.fz 2
  have H := Lib.hid h
  clear h
  cases e with
  | true =>
    go_enter Try.func19, Try.ntmps19
    go_wp2
    go_ret
    exact ⟨rfl, H.out, Ch.refl _ _⟩
  | false =>
    go_enter Try.func19, Try.ntmps19
    go_wp2
    go_ret
    have hc : Ch (Rp p a) w (w.setCell ⟨p, 2, none⟩ (.bool true)) := (Ch.refl _ _).setCell _ _ (.inl (.inl rfl))
    exact ⟨rfl, ⟨set2of3 H.out.hp, H.out.row.ch ((Ch.refl (fun k => k = p) _).setCell ⟨p, 2, none⟩ _ (.inl rfl)) (fun g hg => H.out.ne hg), H.out.byts, H.out.le, H.out.small⟩, hc⟩

/-- Behind the use of n bits: the struct's first two cells have been set. -/
def UsedR (w : World) (p : Nat) (a : Option Addr) (f : List Int) (u : Nat) (e : Bool) (w' : World) : Prop := ∃ a' c', Rd w' p a' c' f u e ∧ Ch (Rp p a) w w' ∧ blk a' = blk a
theorem Rd.used (h : Rd w p a c f u e) {a2 : Option Addr} {c2 m k n m2 : Nat} {v : Int} (hw : WinS w .u8 5 a2 c2 ((f.drop (u / 8)).drop k)) (hb : blk a2 = blk a) (hm : m2 = m - k) (hm2 : m = f.length - u / 8) (hk : (u + n) / 8 = u / 8 + k) (hn : u + n ≤ 8 * f.length) (hv : v = ((u + n : Nat) : Int)) :
    UsedR w p a f (u + n) e ((w.setCell ⟨p, 0, none⟩ (.slice a2 m2 c2)).setCell ⟨p, 1, none⟩ (.int .i64 v)) := by
  have hc : Ch (Rp p a) w ((w.setCell ⟨p, 0, none⟩ (.slice a2 m2 c2)).setCell ⟨p, 1, none⟩ (.int .i64 v)) := ((Ch.refl _ _).setCell _ _ (.inl (.inl rfl))).setCell _ _ (.inl (.inl rfl))
  have hc' : Ch (fun k => k = p) w ((w.setCell ⟨p, 0, none⟩ (.slice a2 m2 c2)).setCell ⟨p, 1, none⟩ (.int .i64 v)) := ((Ch.refl (fun k => k = p) w).setCell ⟨p, 0, none⟩ _ (.inl rfl)).setCell ⟨p, 1, none⟩ _ (.inl rfl)
  refine ⟨a2, c2, ⟨?_, ?_, h.byts, hn, h.small⟩, hc, hb⟩
  · have h1 := set1of3 (u := .int .i64 v) (set0of3 (u := .slice a2 m2 c2) h.hp)
    rw [h1, hm, hm2, hk, hv, Nat.sub_sub]
  · rw [hk, ← List.drop_drop]
    exact hw.ch hc' (fun g hg => h.ne (by rw [← hb]; exact hg))

set_option maxHeartbeats 400000 in
theorem use_call (h : Rd w p a c f u e) (n : Nat) (hn : u + n ≤ 8 * f.length) :
    Calls Try.prog 28 #[.pointer (some ⟨p, 0, none⟩), .int .i64 n] w fun x w' => (∃ v, x = .returned v) ∧ UsedR w p a f (u + n) e w' := by
  have h0 := h.c0
  have h1 := h.c1
  have hf0 := h.fz 0
  have hf1 := h.fz 1
  have hs := h.small
  have hl := h.le
  have hc := h.row.cap
  rw [List.length_drop] at hc
  have hpl := h.plt
  have H := Lib.hid h
  have HB := Lib.hid (begun_call h)
  obtain ⟨m, hm⟩ : ∃ m, m = f.length - u / 8 := ⟨_, rfl⟩
  rw [← hm] at h0 hc
  obtain ⟨hc1, hc2⟩ := hc
  obtain ⟨k, hk⟩ : ∃ k, k = (u % 8 + n) / 8 := ⟨_, rfl⟩
  have hkm : k ≤ m := by omega
  have hk2 : ((u : Int) % 8 + (n : Int)) / 8 = (k : Int) := by omega
  have hn8 : n ≤ 8000000 := by omega
  have hku : (u + n) / 8 = u / 8 + k := by omega
  have hm2 : m ≤ 1000000 := by omega
  have HM := Lib.hid hm
  have HKU := Lib.hid hku
  unfold maxLen at hc2
  have HNN := Lib.hid hn
  clear h hm hk hku hn
  go_enter Try.func28, Try.ntmps28
  go_wp2_with (go_at_call 27; go_must (refine HB.out.mono ?_; rintro e w' ⟨rfl, rfl⟩))
  all_goals go_end0
  · have hd := H.out.row.drop k (by rw [List.length_drop, ← HM.out]; exact hkm)
    rw [if_pos h, h, Nat.sub_self] at hd
    exact ⟨⟨_, rfl⟩, H.out.used hd rfl rfl HM.out HKU.out HNN.out (by omega)⟩
  · have hd := H.out.row.drop k (by rw [List.length_drop, ← HM.out]; exact hkm)
    have hb := WinS.dropBlk a c k
    rw [if_neg h] at hd hb
    exact ⟨⟨_, rfl⟩, H.out.used hd hb rfl HM.out HKU.out HNN.out (by omega)⟩
end
end Go.Proofs.Ytjbbbojbjholfaa
