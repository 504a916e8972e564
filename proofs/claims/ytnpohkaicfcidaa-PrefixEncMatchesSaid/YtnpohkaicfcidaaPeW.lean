/- Package bitwriter: the writer. -/
import Derived.Test.YtnpohkaicfcidaaBvI
import Derived.Test.YtnpohkaicfcidaaPeI
import Derived.BigQuiet
import Derived.Deep.QuietTactic
import Derived.RegionTactic
import Derived.Deep.DeepMust
set_option linter.unusedVariables false
set_option linter.unusedSimpArgs false
namespace Go.Proofs.Ytnpohkaicfcidaa
open Go.RowKit

theorem isWidth_yes (wd : Int) (w : World) (h0 : 0 ≤ wd) (h1 : wd ≤ 32) :
    Calls Try.prog 31 #[.int .i64 wd] w fun e w' => e = .returned (.bool true) ∧ w = w' := by
  have d0 : decide (0 ≤ wd) = true := by simpa using h0
  have d1 : decide (wd ≤ 32) = true := by simpa using h1
  go_enter Try.func31, Try.ntmps31
  go_wp2
  go_ret
  exact ⟨rfl, rfl⟩
theorem isWidth_no (wd : Int) (w : World) (h : ¬ (0 ≤ wd ∧ wd ≤ 32)) :
    Calls Try.prog 31 #[.int .i64 wd] w fun e w' => e = .returned (.bool false) ∧ w = w' := by
  by_cases h0 : 0 ≤ wd
  · have d0 : decide (0 ≤ wd) = true := by simpa using h0
    have d1 : decide (wd ≤ 32) = false := by simp; omega
    clear h
    go_enter Try.func31, Try.ntmps31
    go_wp2
    go_ret
    exact ⟨rfl, rfl⟩
  · have d0 : decide (0 ≤ wd) = false := by simpa using h0
    clear h
    go_enter Try.func31, Try.ntmps31
    go_wp2
    go_ret
    exact ⟨rfl, rfl⟩

/-- A writer in memory: its struct is block p, its bytes are the row A with capacity c; the bits bs. -/
structure Wr (w : World) (p : Nat) (A : Option Nat) (c : Nat) (bs : List Int) : Prop where
  hp : w.heap[p]? = some (.cells #[.slice (ad0 A) ((bs.length + 7) / 8) c, .int .i64 bs.length] 66 (0, 0))
  row : OwnS w .u8 5 A c (packB bs)
  bin : Bin bs
  small : bs.length ≤ 1000000
/-- The blocks of a writer. -/
def Fp (p : Nat) (A : Option Nat) : Nat → Prop := fun k => k = p ∨ A = some k
section
variable {w w' : World} {p : Nat} {A : Option Nat} {c : Nat} {bs : List Int}
theorem Wr.ne (h : Wr w p A c bs) {g : Nat} (hg : A = some g) : g ≠ p := by
  subst hg
  rintro rfl
  obtain ⟨cur, h1, _⟩ := h.row.row
  have h2 := h.hp
  rw [h1] at h2
  injection h2 with h2
  injection h2 with _ h2
  revert h2
  decide
theorem Wr.plt (h : Wr w p A c bs) : p < w.heap.size := (Array.getElem?_eq_some_iff.1 h.hp).1
theorem Wr.fpLt (h : Wr w p A c bs) {k : Nat} (hk : Fp p A k) : k < w.heap.size := by
  rcases hk with rfl | hk
  · exact h.plt
  · exact h.row.lt hk
theorem Wr.c0 (h : Wr w p A c bs) : w.cell? ⟨p, 0, none⟩ = some (.slice (ad0 A) ((bs.length + 7) / 8) c) := by simp [World.cell?, h.hp]
theorem Wr.c1 (h : Wr w p A c bs) : w.cell? ⟨p, 1, none⟩ = some (.int .i64 bs.length) := by simp [World.cell?, h.hp]
theorem Wr.f (h : Wr w p A c bs) (i : Nat) : w.frozen? ⟨p, i, none⟩ = false := by simp [World.frozen?, h.hp]
theorem Wr.ch {S : Nat → Prop} (h : Wr w p A c bs) (hc : Ch S w w') (hn : ∀ k, Fp p A k → ¬ S k) : Wr w' p A c bs :=
  ⟨hc.heap h.hp (hn p (.inl rfl)), h.row.ch hc (fun g hg => hn g (.inr hg)), h.bin, h.small⟩
theorem Wr.below (h : Wr w p A c bs) (hb : Below w.heap.size w w') : Wr w' p A c bs := h.ch (Ch.of_below (S := fun _ => False) hb) (fun _ _ e => e)
theorem Wr.alloc (h : Wr w p A c bs) (o : Obj) : Wr (w.alloc o) p A c bs := h.below ((Below.refl _ _).alloc (Nat.le_refl _) _)
theorem Wr.drew (h : Wr w p A c bs) : Wr w.drew p A c bs := ⟨h.hp, h.row, h.bin, h.small⟩
theorem Wr.drewN (h : Wr w p A c bs) (n : Nat) : Wr (w.drewN n) p A c bs := ⟨h.hp, h.row, h.bin, h.small⟩
end

set_option maxHeartbeats 400000 in
theorem wnew_call (w : World) :
    Calls Try.prog 15 #[] w fun e w' => e = .returned (.pointer (some ⟨w.heap.size, 0, none⟩)) ∧ Wr w' w.heap.size none 0 [] ∧ Below w.heap.size w w' := by
  go_enter Try.func15, Try.ntmps15
  go_wp2
  go_ret
  exact ⟨rfl, ⟨heap_alloc_new w _, OwnS.nil _ _ _, Bin.nil, by simp⟩, (Below.refl _ _).alloc (Nat.le_refl _) _⟩

set_option maxHeartbeats 400000 in
theorem wlen_call {w : World} {p : Nat} {A : Option Nat} {c : Nat} {bs : List Int} (h : Wr w p A c bs) :
    Calls Try.prog 20 #[.pointer (some ⟨p, 0, none⟩)] w fun e w' => e = .returned (.int .i64 bs.length) ∧ w = w' := by
  have h1 := h.c1
  clear h
  go_enter Try.func20, Try.ntmps20
  go_wp2
  go_ret
  exact ⟨rfl, rfl⟩
theorem wlen_nil (w : World) :
    Calls Try.prog 20 #[.pointer none] w fun e w' => e = .returned (.int .i64 0) ∧ w = w' := by
  go_enter Try.func20, Try.ntmps20
  go_wp2
  go_ret
  exact ⟨rfl, rfl⟩

theorem byteT : Try.prog.underlying 5 = some (.int .u8) := Try.underlying5
theorem byteSize : (Try.prog.info? 5).map (·.size) = some 1 := by kernel_rfl
theorem strT : Try.prog.underlying 9 = some .string := Try.underlying9

set_option maxHeartbeats 400000 in
theorem wbytes_call {w : World} {p : Nat} {A : Option Nat} {c : Nat} {bs : List Int} (h : Wr w p A c bs) :
    Calls Try.prog 21 #[.pointer (some ⟨p, 0, none⟩)] w fun e w' => ∃ g, e = .returned (.slice (some ⟨g, 0, none⟩) ((bs.length + 7) / 8) ((bs.length + 7) / 8)) ∧ w.heap.size ≤ g ∧
      w'.heap[g]? = some (.cells (icells .u8 (packB bs)) 5 (0, 0)) ∧ Below w.heap.size w w' := by
  have h0 := h.c0
  have hs := h.small
  have hpl := h.plt
  have H := Lib.hid h
  clear h
  obtain ⟨m, hm⟩ : ∃ m, m = (bs.length + 7) / 8 := ⟨_, rfl⟩
  rw [← hm] at h0 ⊢
  have hb2 : m ≤ 125001 := by omega
  have HM := Lib.hid hm
  clear hm
  have hmk := fun W => run_makeI (P := Try.prog) (b := 1) sliceT byteI .i64 .i64 m (by omega) (by omega) W
  have hPl : (packB bs).length = m := by rw [packB_length]; exact HM.out.symm
  obtain ⟨w3, hrun, hg3, hgr⟩ := run_copyI (P := Try.prog) (w.alloc (.cells (icells .u8 (List.replicate m 0)) 5)) 25 25 3 _ sliceT byteSize (some ⟨w.heap.size, 0, none⟩) (ad0 A) m m m c .u8 w.heap.size 0 (List.replicate m 0) 5 (heap_alloc_new _ _) (packB bs) hPl (H.out.row.alloc _).src m (by simp) (fun _ => rfl) (by simp)
  have hcs : splice (List.replicate m (0 : Int)) 0 ((packB bs).take m) = packB bs := by
    rw [List.take_of_length_le (Nat.le_of_eq hPl)]
    exact splice_full _ _ (by rw [List.length_replicate]; exact hPl)
  rw [hcs] at hg3
  have hgr' := Lib.hid hgr
  have hg3' := Lib.hid hg3
  clear hcs hgr hg3 hPl
  go_enter Try.func21, Try.ntmps21
  go_wp2
  go_ret
  exact ⟨w.heap.size, rfl, Nat.le_refl _, hg3'.out, ((Below.refl _ _).alloc (Nat.le_refl _) _).grown hgr'.out (by simp) (fun k e => by injection e with e; omega)⟩

theorem wbytes_nil (w : World) :
    Calls Try.prog 21 #[.pointer none] w fun e w' => e = .returned (.slice none 0 0) ∧ w = w' := by
  go_enter Try.func21, Try.ntmps21
  go_wp2
  go_ret
  exact ⟨rfl, rfl⟩

theorem set0of2 {w : World} {p : Nat} {a b u : Value} {t : TypeId} (h : w.heap[p]? = some (.cells #[a, b] t (0, 0))) : (w.setCell ⟨p, 0, none⟩ u).heap[p]? = some (.cells #[u, b] t (0, 0)) := by
  simp [World.setCell, Array.getElem?_modify, h]
theorem set1of2 {w : World} {p : Nat} {a b u : Value} {t : TypeId} (h : w.heap[p]? = some (.cells #[a, b] t (0, 0))) : (w.setCell ⟨p, 1, none⟩ u).heap[p]? = some (.cells #[a, u] t (0, 0)) := by
  simp [World.setCell, Array.getElem?_modify, h]
theorem bit_wrap8 (b : Int) (hb : b = 0 ∨ b = 1) (k : Nat) (hk : k ≤ 7) : b * 2 ^ k % 256 = b * ((2 ^ k : Nat) : Int) := by
  have e : ((2 ^ k : Nat) : Int) = 2 ^ k := by simp
  have h2 : 2 ^ k ≤ 2 ^ 7 := Nat.pow_le_pow_right (by omega) hk
  rw [← e]
  have h0 := Nat.two_pow_pos k
  rcases hb with rfl | rfl
  · rw [Int.zero_mul]; rfl
  · rw [Int.one_mul]; omega
/-- The writer behind a bit: the byte has been set, the number raised. -/
theorem Wr.added {w : World} {p g m c n k : Nat} {bs : List Int} {b : Int} {l : List Int} (hn : n = bs.length) (hp : w.heap[p]? = some (.cells #[.slice (some ⟨g, 0, none⟩) m c, .int .i64 n] 66 (0, 0)))
    (hrow : OwnS w .u8 5 (some g) c l) (hne : g ≠ p) (hk : k < l.length) (hm : m = (n + 1 + 7) / 8) (y : Int) (hl : packB (bs ++ [b]) = l.set k y) (hbin : Bin bs) (hb : b = 0 ∨ b = 1) (hs : n + 1 ≤ 1000000) :
    Wr ((w.setCell ⟨g, k, none⟩ (.int .u8 y)).setCell ⟨p, 1, none⟩ (.int .i64 ((n : Int) + 1))) p (some g) c (bs ++ [b]) := by
  have hL : (bs ++ [b]).length = n + 1 := by rw [List.length_append, List.length_singleton, hn]
  refine ⟨?_, ?_, hbin.append (Bin.one hb), by rw [hL]; exact hs⟩
  · rw [hL, ← hm, ad0_some]
    have := set1of2 (u := .int .i64 ((n : Int) + 1)) (show (w.setCell ⟨g, k, none⟩ (.int .u8 y)).heap[p]? = _ by rw [Below.heap_setCell _ _ _ _ (Ne.symm hne)]; exact hp)
    rw [this]
    rfl
  · rw [hl]
    exact (hrow.set k y hk).ch ((Ch.refl (fun k => k = p) _).setCell _ _ (.inl rfl)) (fun g' e => by injection e with e; subst e; exact hne)

set_option maxHeartbeats 1000000 in
theorem add_old {w : World} {p : Nat} {A : Option Nat} {c : Nat} {bs : List Int} (h : Wr w p A c bs) (b : Int) (hb : b = 0 ∨ b = 1) (h8 : bs.length % 8 ≠ 0) (hs1 : bs.length + 1 ≤ 1000000) :
    Calls Try.prog 33 #[.pointer (some ⟨p, 0, none⟩), .int .u32 b] w fun e w' => (∃ v, e = .returned v) ∧ ∃ A' c', Wr w' p A' c' (bs ++ [b]) ∧ Ch (Fp p A) w w' ∧ (∀ g, A' = some g → A = some g ∨ w.heap.size ≤ g) := by
  have hr := h.row
  obtain ⟨g, rfl⟩ := hr.pos (by rw [packB_length]; omega)
  have hne := h.ne rfl
  have h0 := h.c0
  have h1 := h.c1
  have hpl := h.plt
  have hf0 := h.f 0
  have hf1 := h.f 1
  have hlt : (bs.length - 1) / 8 < (packB bs).length := by rw [packB_length]; omega
  have hd : (bs.length - 1) / 8 = bs.length / 8 := by omega
  have hcl := hr.cell (bs.length / 8) (by rw [← hd]; exact hlt)
  have hfl := hr.frozen (bs.length / 8)
  rw [packB_getD _ _ (by omega)] at hcl
  have hxb := byteOf_bd h.bin (bs.length / 8)
  have hxh := byteOf_high bs
  have hsn := packB_snoc bs b
  have hrm : roomB bs = packB bs := by unfold roomB; rw [if_neg h8, List.append_nil]
  have hor := or_bit8 (byteOf bs (bs.length / 8)) b (7 - bs.length % 8) (by omega) hb hxb (by rw [show 7 - bs.length % 8 + 1 = 8 - bs.length % 8 by omega]; exact hxh)
  rw [hrm, ← hor] at hsn
  have H := Lib.hid h
  have HS := Lib.hid hsn
  obtain ⟨x, hx⟩ : ∃ x, x = byteOf bs (bs.length / 8) := ⟨_, rfl⟩
  rw [← hx] at hcl hxb HS
  obtain ⟨n, hn⟩ : ∃ n, n = bs.length := ⟨_, rfl⟩
  rw [← hn] at h0 h1 hcl hfl h8 hs1 HS
  have hl2 : (n + 7) / 8 = n / 8 + 1 := by omega
  rw [hl2, ad0_some] at h0
  obtain ⟨q, hq⟩ : ∃ q, q = n / 8 := ⟨_, rfl⟩
  obtain ⟨r, hrr⟩ : ∃ r, r = n % 8 := ⟨_, rfl⟩
  rw [← hq] at h0 hcl hfl HS
  rw [← hrr] at h8 HS
  have hnq : (n : Int) = 8 * (q : Int) + (r : Int) := by omega
  have hr1 : 1 ≤ r := by omega
  have hr7 : r ≤ 7 := by omega
  have hq2 : q ≤ 125000 := by omega
  have d1 : ((n : Int) == 8 * ((q : Int) + 1)) = false := by simp; omega
  have hb0 : 0 ≤ b := by omega
  have hb1 : b ≤ 1 := by omega
  obtain ⟨hxb1, hxb2⟩ := hxb
  have HX := Lib.hid hx
  have HN := Lib.hid hn
  have HQ := Lib.hid hq
  have HR := Lib.hid hrr
  have HNQ := Lib.hid hnq
  have HB := Lib.hid hb
  clear hsn hx hn hq hrr hnq hor hxh hl2 hd hlt hrm hr h hb h8
  go_enter Try.func33, Try.ntmps33
  go_wp2
  go_quiet (fail)
  go_wp2
  go_region
  go_wp2
  go_end0
  have hP := H.out
  have hy := HS.out
  have hp := hP.hp
  rw [← HN.out, show (n + 7) / 8 = q + 1 by have := HNQ.out; omega, ad0_some] at hp
  rw [← bit_wrap8 b HB.out (7 - r) (by omega), HR.out] at hy
  refine ⟨⟨_, rfl⟩, some g, c, Wr.added (w := w.drewN (nq + 1)) HN.out hp hP.row hne (by rw [packB_length, ← HN.out]; have := HNQ.out; omega) (by have := HNQ.out; omega) _ hy hP.bin HB.out hs1, ((((Ch.refl _ _).drewN _).setCell _ _ (.inl (.inr rfl))).setCell _ _ (.inl (.inl rfl))), fun g' e => .inl e⟩

set_option maxHeartbeats 1000000 in
theorem add_new {w : World} {p : Nat} {A : Option Nat} {c : Nat} {bs : List Int} (h : Wr w p A c bs) (b : Int) (hb : b = 0 ∨ b = 1) (h8 : bs.length % 8 = 0) (hs1 : bs.length + 1 ≤ 1000000) :
    Calls Try.prog 33 #[.pointer (some ⟨p, 0, none⟩), .int .u32 b] w fun e w' => (∃ v, e = .returned v) ∧ ∃ A' c', Wr w' p A' c' (bs ++ [b]) ∧ Ch (Fp p A) w w' ∧ (∀ g, A' = some g → A = some g ∨ w.heap.size ≤ g) := by
  have h0 := h.c0
  have h1 := h.c1
  have hpl := h.plt
  have hf0 := h.f 0
  have hf1 := h.f 1
  have hx0 : byteOf bs (bs.length / 8) = 0 := by
    have := roomB_getD bs (bs.length / 8)
    unfold roomB at this
    rw [getD_app_right _ _ _ (by rw [packB_length]; omega), if_pos h8, packB_length, show bs.length / 8 - (bs.length + 7) / 8 = 0 by omega] at this
    exact this.symm
  have hsn := packB_snoc bs b
  have hrm : roomB bs = packB bs ++ [0] := by unfold roomB; rw [if_pos h8]
  have hor := or_bit8 0 b 7 (by omega) hb (by omega) ⟨0, by simp⟩
  rw [hrm, hx0, h8, ← hor, ← bit_wrap8 b hb 7 (by omega)] at hsn
  have hPl : (packB bs).length = bs.length / 8 := by rw [packB_length]; omega
  have H := Lib.hid h
  have HS := Lib.hid hsn
  obtain ⟨n, hn⟩ : ∃ n, n = bs.length := ⟨_, rfl⟩
  rw [← hn] at h0 h1 h8 hs1 HS hPl
  obtain ⟨q, hq⟩ : ∃ q, q = n / 8 := ⟨_, rfl⟩
  rw [show (n + 7) / 8 = n / 8 by omega, ← hq] at h0
  rw [← hq] at HS hPl
  have hnq : (n : Int) = 8 * (q : Int) := by omega
  have hq2 : q ≤ 125000 := by omega
  have d1 : ((n : Int) == 8 * (q : Int)) = true := by simp; omega
  have hb0 : 0 ≤ b := by omega
  have hb1 : b ≤ 1 := by omega
  have hm8 : (n : Int) % 8 = 0 := by omega
  have HN := Lib.hid hn
  have HNQ := Lib.hid hnq
  have HB := Lib.hid hb
  have HP := Lib.hid hPl
  have H8 := Lib.hid hm8
  clear hsn hn hq hnq hor hrm h hb h8 hx0 hPl hm8
  go_enter Try.func33, Try.ntmps33
  go_wp2
  go_quiet (fail)
  go_wp2_with (at_builtin; go_must (
    refine wpList_appendI rfl _ _ 25 rfl 5 .u8 1 sliceT byteI A c (packB bs) q HP.out rfl ((show OwnS (w.drewN nq) .u8 5 A c (packB bs) from H.out.row).alloc _) (some ⟨w.heap.size, 0, none⟩) 1 1 rfl [0] rfl (Src.one (Boxed.new (w.drewN nq) 5 (.int .u8 0)).cell) (by unfold maxLen; omega) (by omega) ?_
    intro A' c' w1 hown hgr halt
    obtain ⟨g, rfl⟩ := hown.pos (by simp)
    rw [ad0_some]
    have hcp : w1.cell? ⟨p, 0, none⟩ = some (.slice (ad0 A) q c) := hgr.cell ((World.cell?_alloc_lt _ _ _ hpl).trans h0) (fun e => H.out.ne e.symm rfl)
    have hc1 : w1.cell? ⟨p, 1, none⟩ = some (.int .i64 n) := hgr.cell ((World.cell?_alloc_lt _ _ _ hpl).trans h1) (fun e => H.out.ne e.symm rfl)
    have hp1 : w1.heap[p]? = some (.cells #[.slice (ad0 A) q c, .int .i64 n] 66 (0, 0)) := by
      rw [hgr.block p (by simp; omega) (fun e => H.out.ne e.symm rfl), Below.heap_alloc _ _ _ (by exact hpl)]
      have := H.out.hp
      rw [← HN.out, show (n + 7) / 8 = q by have := HNQ.out; omega] at this
      exact this
    have hfp : w1.frozen? ⟨p, 0, none⟩ = false := by simp [World.frozen?, hp1]
    have hfp1 : w1.frozen? ⟨p, 1, none⟩ = false := by simp [World.frozen?, hp1]
    have hgp : g ≠ p := by
      rintro rfl
      obtain ⟨cur, e1, _⟩ := hown.row
      rw [hp1] at e1
      injection e1 with e1
      injection e1 with _ e1
      revert e1
      decide
    have hcq := hown.cell q (by simp [HP.out])
    have hz0 : (packB bs ++ [(0 : Int)]).getD q 0 = 0 := by
      have e := getD_app_right (packB bs) [0] q (Nat.le_of_eq HP.out)
      rw [HP.out, Nat.sub_self] at e
      exact e
    rw [hz0] at hcq
    have hfq := hown.frozen q
    have hgl := hown.lt rfl
    have hpl1 : p < w1.heap.size := (Array.getElem?_eq_some_iff.1 hp1).1
    have HO := Lib.hid hown
    have HG := Lib.hid hgr
    have HA := Lib.hid halt
    have HP1 := Lib.hid hp1
    have hpg : p ≠ g := Ne.symm hgp
    have hw1 : w.heap.size < w1.heap.size := by have := hgr.size; simp at this; omega
    clear hown hgr halt hp1))
  go_region
  go_wp2
  go_end0
  have hP := H.out
  rw [show 7 - n % 8 = 7 by have := HNQ.out; omega]
  have hp1 := set0of2 (u := .slice (some ⟨g, 0, none⟩) (q + 1) c') HP1.out
  have hrow := HO.out.ch ((Ch.refl (fun k => k = p) w1).setCell ⟨p, 0, none⟩ (.slice (some ⟨g, 0, none⟩) (q + 1) c') (.inl rfl)) (fun g' e => by injection e with e; subst e; exact hgp)
  refine ⟨⟨_, rfl⟩, some g, c', (Wr.added HN.out hp1 hrow hgp (by simp [HP.out]) (by have := HNQ.out; omega) _ HS.out hP.bin HB.out hs1).drew, ?_, fun g' e => ?_⟩
  · have hA : A = some g ∨ w.heap.size ≤ g := by
      rcases HA.out with e | e
      · exact .inl e.symm
      · injection e with e
        exact .inr (by simp at e; omega)
    exact ((((((Ch.refl (Fp p A) w).drewN nq).alloc _).grown HG.out (fun k e => .inl (.inr e))).setCell ⟨p, 0, none⟩ _ (.inl (.inl rfl))).setCell ⟨g, q, none⟩ _ (hA.imp Or.inr id)).setCell ⟨p, 1, none⟩ _ (.inl (.inl rfl)) |>.drew
  · injection e with e
    subst e
    rcases HA.out with e | e
    · exact .inl e.symm
    · injection e with e
      exact .inr (by simp at e; omega)

theorem add_call {w : World} {p : Nat} {A : Option Nat} {c : Nat} {bs : List Int} (h : Wr w p A c bs) (b : Int) (hb : b = 0 ∨ b = 1) (hs1 : bs.length + 1 ≤ 1000000) :
    Calls Try.prog 33 #[.pointer (some ⟨p, 0, none⟩), .int .u32 b] w fun e w' => (∃ v, e = .returned v) ∧ ∃ A' c', Wr w' p A' c' (bs ++ [b]) ∧ Ch (Fp p A) w w' ∧ (∀ g, A' = some g → A = some g ∨ w.heap.size ≤ g) := by
  by_cases h8 : bs.length % 8 = 0
  · exact add_new h b hb h8 hs1
  · exact add_old h b hb h8 hs1
end Go.Proofs.Ytnpohkaicfcidaa
