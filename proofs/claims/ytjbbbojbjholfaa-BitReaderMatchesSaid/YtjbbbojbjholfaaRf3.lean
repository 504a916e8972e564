/- The reference of layer 3: Bit; bits of a value. -/
import Derived.Test.YtjbbbojbjholfaaRdB
set_option linter.unusedVariables false
set_option linter.unusedSimpArgs false
namespace Go.Proofs.Ytjbbbojbjholfaa
open Go.RowKit

theorem IsRow.capMax {k : IntKind} {w : World} {a : Option Addr} {len cap : Nat} {zs : List Int} (h : IsRow k w a len cap zs) : cap ≤ maxLen := by
  rcases h with ⟨_, _, rfl, _⟩ | ⟨x, _, _, h2, _⟩
  · unfold maxLen; omega
  · exact h2
theorem valV_getD (L : List Int) (hb : Bin L) (k n : Nat) (hn : L.length = n) (hk : k < n) : valV L / ((2 ^ (n - 1 - k) : Nat) : Int) % 2 = L.getD k 0 := by
  subst hn
  have h := bits_valV L hb
  have := bitsV_getD (valV L) L.length k hk
  rw [h] at this
  exact this.symm
theorem getD_mid (L : List Int) (u n k : Nat) (hk : k < n) : ((L.drop u).take n).getD k 0 = L.getD (u + k) 0 := by
  simp [List.getD_eq_getElem?_getD, List.getElem?_take, hk]
theorem Bin.mid {L : List Int} (h : Bin L) (u n : Nat) : Bin ((L.drop u).take n) := fun x hx => h x (List.mem_of_mem_drop (List.mem_of_mem_take hx))
theorem mid_length (L : List Int) (u n : Nat) (h : u + n ≤ L.length) : ((L.drop u).take n).length = n := by
  rw [List.length_take, List.length_drop]; omega
/-- A byte's eight bits. -/
theorem mid_byte (l : List Int) (hl : ∀ x ∈ l, 0 ≤ x ∧ x ≤ 255) (j : Nat) (hj : j < l.length) : valV (((bitsB l).drop (8 * j)).take 8) = l[j] := by
  rw [← bitsB_drop, List.drop_eq_getElem_cons hj]
  rw [show bitsB (l[j] :: l.drop (j + 1)) = bitsV l[j] 8 ++ bitsB (l.drop (j + 1)) from rfl]
  have h8 : (bitsV l[j] 8).length = 8 := bitsV_length _ 8
  have := List.take_left (l₁ := bitsV l[j] 8) (l₂ := bitsB (l.drop (j + 1)))
  rw [h8] at this
  rw [this]
  have hb := hl _ (List.getElem_mem hj)
  exact valV_bits 8 _ hb.1 (by simp; omega)

theorem and1_u32 (x : Int) (h0 : 0 ≤ x) (h1 : x ≤ 4294967295) : bits .and .u32 x 1 = x % 2 := by
  obtain ⟨X, rfl⟩ := Int.eq_ofNat_of_zero_le h0
  have := u32_and_nat X 1 (by omega) (by omega)
  rw [nat_mask1] at this
  rw [show (1 : Int) = ((1 : Nat) : Int) by rfl, this]
  omega
/-- What the laws compare: a bit of a value. -/
theorem bit_differs (V : Int) (s : Nat) (b : Int) (h0 : 0 ≤ V) (h1 : V ≤ 4294967295) (hb : V / ((2 ^ s : Nat) : Int) % 2 = b) : (wrap64 (bits .and .u32 (V / 2 ^ s) 1) != b) = false := by
  have e : ((2 : Int) ^ s) = ((2 ^ s : Nat) : Int) := by simp
  have hp := Nat.two_pow_pos s
  have hd0 : 0 ≤ V / ((2 ^ s : Nat) : Int) := Int.ediv_nonneg h0 (by omega)
  have hd1 : V / ((2 ^ s : Nat) : Int) ≤ V := Int.ediv_le_self _ h0
  rw [e, and1_u32 _ hd0 (by omega), hb]
  have hb0 : b = 0 ∨ b = 1 := by omega
  rcases hb0 with rfl | rfl <;> simp [wrap64]

set_option maxHeartbeats 400000 in
theorem bit_call (w : World) (sp : Option Addr) (n c : Nat) (l : List Int) (hl : l.length = n) (hS : Src w .u8 sp l) (hby : Byts l) (i : Nat) (hi : i < 8 * n) (h6 : n ≤ 1000000) :
    Calls Try.prog 26 #[.slice sp n c, .int .i64 i] w fun x w' => x = .returned (.int .i64 ((bitsB l).getD i 0)) ∧ w = w' := by
  have hv := bitsB_getD l i (by omega)
  rcases hS with rfl | ⟨g, o, rfl, hc⟩
  · simp at hl
    omega
  have hil : i / 8 < l.length := by omega
  have hci := hc (i / 8) hil
  have hxb := hby _ (List.getElem_mem hil)
  rw [getD_in _ _ hil] at hci hv
  obtain ⟨x, hx⟩ : ∃ x, x = l[i / 8] := ⟨_, rfl⟩
  rw [← hx] at hci hxb hv
  obtain ⟨q, hq⟩ : ∃ q, q = i / 8 := ⟨_, rfl⟩
  obtain ⟨r, hr⟩ : ∃ r, r = i % 8 := ⟨_, rfl⟩
  have hi8 : (i : Int) = 8 * (q : Int) + (r : Int) := by omega
  rw [← hq] at hci
  rw [← hr] at hv
  have hqn : q < n := by omega
  have hr7 : r ≤ 7 := by omega
  have eq1 : (i : Int) / 8 = (q : Int) := by omega
  have er1 : (i : Int) % 8 = (r : Int) := by omega
  obtain ⟨hx0, hx1⟩ := hxb
  have HV := Lib.hid hv
  clear hv hc hil hx hq hr hby hl hi8
  go_enter Try.func26, Try.ntmps26
  go_wp2_with fail
  rw [er1]
  go_loopw [5, 6] (fun c k wr => ∃ j : Nat, r ≤ j ∧ j ≤ 7 ∧ k = .int .i64 j ∧ c = .int .i64 (x / ((2 ^ (j - r) : Nat) : Int)) ∧ wr = w) (fun _ k _ => 7 - (intOf k).toNat)
  case atStart => exact ⟨r, Nat.le_refl _, hr7, rfl, by simp, rfl⟩
  case round =>
    obtain ⟨j, hrj, hj, rfl, rfl, rfl⟩ := hrel
    have hp0 := Nat.two_pow_pos (j - r)
    have hd0 : 0 ≤ x / ((2 ^ (j - r) : Nat) : Int) := Int.ediv_nonneg hx0 (by omega)
    have hd1 : x / ((2 ^ (j - r) : Nat) : Int) ≤ x := Int.ediv_le_self _ hx0
    by_cases hlt : j < 7
    · have hdiv : x / ((2 ^ (j - r) : Nat) : Int) / 2 = x / ((2 ^ (j + 1 - r) : Nat) : Int) := by
        rw [show j + 1 - r = j - r + 1 by omega, Nat.pow_succ, Int.natCast_mul, ← Int.ediv_ediv_of_nonneg (by omega)]
        rfl
      obtain ⟨y, hy⟩ : ∃ y, y = x / ((2 ^ (j - r) : Nat) : Int) := ⟨_, rfl⟩
      rw [← hy] at hdiv hd0 hd1 ⊢
      have HD := Lib.hid hdiv
      clear hdiv hy
      have dj : decide ((j : Int) < 7) = true := by simp; omega
      go_wp2_with fail
      go_roundw
      case rel => exact ⟨j + 1, by omega, by omega, by go_num, by rw [HD.out], trivial⟩
      case measure => simp [intOf]; omega
    · obtain rfl : j = 7 := by omega
      obtain ⟨y, hy⟩ : ∃ y, y = x / ((2 ^ (7 - r) : Nat) : Int) := ⟨_, rfl⟩
      rw [← hy] at HV hd0 hd1 ⊢
      clear hy
      go_wp2_with fail
      go_ret
      exact ⟨by rw [HV.out]; rfl, rfl⟩
end Go.Proofs.Ytjbbbojbjholfaa
