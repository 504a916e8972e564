/- The walk over winepresslaw04.wakes. -/
import Derived.Test.YtpodepplfhjdfaaCrcR
import Derived.Lib.SmallJoins
set_option linter.unusedVariables false
set_option linter.unusedSimpArgs false
namespace Go.Proofs.Ytpodepplfhjdfaa
open Go.RowKit

theorem heap_on {w w' : World} (hb : Below w.heap.size w w') {g : Nat} {o : Obj} (h : w.heap[g]? = some o) : w'.heap[g]? = some o :=
  (hb.block g (Array.getElem?_eq_some_iff.1 h).1).trans h
theorem tab_cell {w : World} {g : Nat} {t : TypeId} {fr : Nat × Nat} (hg : w.heap[g]? = some (.cells tabR t fr)) (i : Nat) (hi : i < 256) : w.cell? ⟨g, i, none⟩ = some (.int .u32 (crcRow i : Nat)) := by
  rw [cell_of_row w g i _ t fr hg, tabR_get i hi]
theorem row_0 : crcRow 0 = 0 := by decide +kernel
theorem row_1 : crcRow 1 = 1996959894 := by decide +kernel
theorem row_255 : crcRow 255 = 755167117 := by decide +kernel
theorem crc_4 : crcFeed 0 [49, 50, 51, 52] = 2615402659 := by decide +kernel
theorem crc_9 : crcFeed 2615402659 [53, 54, 55, 56, 57] = 3421780262 := by decide +kernel
theorem crc_s1 : crcStep 0 1 = 1996959894 := by decide +kernel

/-- Of at one literal. -/
theorem of_lit (w : World) (l : List Int) (n : Nat) (hn : l.length = n) (hb : Byts l) (hm : n ≤ 1000000) (t : TypeId) (u : TypeId) (v : Int) (hv : ((crcFeed 0 l : Nat) : Int) = v) :
    Calls Try.prog 16 #[.slice (some ⟨w.heap.size + 1, 0, none⟩) 1 1] ((w.alloc (.cells (icells .u8 l) t (n, n + 1))).alloc (.cells #[.slice (some ⟨w.heap.size, 0, none⟩) n n] u)) fun e w' => e = .returned (.int .u32 v) ∧ Below w.heap.size w w' := by
  have h1 := heap_alloc2_old w (.cells (icells .u8 l) t (n, n + 1)) (.cells #[.slice (some ⟨w.heap.size, 0, none⟩) n n] u)
  have h2 := heap_alloc2_new w (.cells (icells .u8 l) t (n, n + 1)) (.cells #[.slice (some ⟨w.heap.size, 0, none⟩) n n] u)
  refine (of_call _ _ 1 1 [⟨some ⟨w.heap.size, 0, none⟩, n, n, l⟩] rfl (CSrc.one h2) (fun d hd => by
    simp only [List.mem_singleton] at hd
    subst hd
    exact OkC.lit h1 hb n hn hm) (by omega)).mono ?_
  rintro e w' ⟨rfl, hb⟩
  exact ⟨by rw [joinC_one, hv], (((Below.refl _ w).alloc (Nat.le_refl _) _).alloc (by simp) _).trans (hb.mono (by simp; omega))⟩

theorem feed_two (w : World) (t : TypeId) (u : TypeId) :
    Calls Try.prog 18 #[.int .u32 2615402659, .slice (some ⟨w.heap.size + 1 + 1, 0, none⟩) 2 2] (((w.alloc (.cells (icells .u8 [53, 54, 55]) t (3, 4))).alloc (.cells (icells .u8 [56, 57]) t (2, 3))).alloc (.cells #[.slice (some ⟨w.heap.size, 0, none⟩) 3 3, .slice (some ⟨w.heap.size + 1, 0, none⟩) 2 2] u)) fun e w' => e = .returned (.int .u32 3421780262) ∧ Below w.heap.size w w' := by
  have h0 := heap_alloc2_old w (.cells (icells .u8 [53, 54, 55]) t (3, 4)) (.cells (icells .u8 [56, 57]) t (2, 3))
  have h1 := heap_alloc2_new w (.cells (icells .u8 [53, 54, 55]) t (3, 4)) (.cells (icells .u8 [56, 57]) t (2, 3))
  have b1 := (Below.refl _ ((w.alloc (.cells (icells .u8 [53, 54, 55]) t (3, 4))).alloc (.cells (icells .u8 [56, 57]) t (2, 3)))).alloc (Nat.le_refl _) (.cells #[.slice (some ⟨w.heap.size, 0, none⟩) 3 3, .slice (some ⟨w.heap.size + 1, 0, none⟩) 2 2] u)
  have h2 := heap_alloc_last ((w.alloc (.cells (icells .u8 [53, 54, 55]) t (3, 4))).alloc (.cells (icells .u8 [56, 57]) t (2, 3))) (.cells #[.slice (some ⟨w.heap.size, 0, none⟩) 3 3, .slice (some ⟨w.heap.size + 1, 0, none⟩) 2 2] u)
  have b0 : Below w.heap.size w (((w.alloc (.cells (icells .u8 [53, 54, 55]) t (3, 4))).alloc (.cells (icells .u8 [56, 57]) t (2, 3))).alloc (.cells #[.slice (some ⟨w.heap.size, 0, none⟩) 3 3, .slice (some ⟨w.heap.size + 1, 0, none⟩) 2 2] u)) := (((Below.refl _ w).alloc (Nat.le_refl _) _).alloc (by simp) _).alloc (by simp; omega) _
  have hz : ((w.alloc (.cells (icells .u8 [53, 54, 55]) t (3, 4))).alloc (.cells (icells .u8 [56, 57]) t (2, 3))).heap.size = w.heap.size + 1 + 1 := by simp
  rw [hz] at h2
  refine (feed_call 2615402659 (by omega) _ _ 2 2 [⟨some ⟨w.heap.size, 0, none⟩, 3, 3, [53, 54, 55]⟩, ⟨some ⟨w.heap.size + 1, 0, none⟩, 2, 2, [56, 57]⟩] rfl (CSrc.two h2) (fun d hd => by
    simp only [List.mem_cons, List.not_mem_nil, or_false] at hd
    rcases hd with rfl | rfl
    · exact (OkC.lit h0 (by simp [Byts]) 3 rfl (by omega)).below b1
    · exact (OkC.lit h1 (by simp [Byts]) 2 rfl (by omega)).below b1) (by omega)).mono ?_
  rintro e w' ⟨rfl, hb⟩
  exact ⟨by rw [show joinC [⟨some ⟨w.heap.size, 0, none⟩, 3, 3, [53, 54, 55]⟩, ⟨some ⟨w.heap.size + 1, 0, none⟩, 2, 2, [56, 57]⟩] = [53, 54, 55, 56, 57] from rfl, crc_9]; rfl, b0.trans (hb.mono b0.size)⟩

set_option maxRecDepth 100000 in
set_option maxHeartbeats 4000000 in
theorem wakes_call (w : World) :
    Calls Try.prog 9 #[] w fun e w' => e = .returned (.bool true) ∧ Below w.heap.size w w' := by
  have hz := tabZ
  have kc := fun (w : World) (C : Array Value) (n c g : Nat) (hg : g = w.heap.size) => Go.Joins.run_convert_bytes_const_at (P := Try.prog) w 24 5 C n c g hg Try.underlying24 Try.underlying5
  go_enter Try.func9, Try.ntmps9
  go_wp2_with fail
  refine (table_call w).mono ?_
  rintro e w1 ⟨rfl, hb1⟩
  have HB1 := Lib.hid hb1
  clear hb1
  go_wp2_with (refine wpList_store_row rfl 27 _ _ rfl w1.heap.size tabR rfl rfl 27 (tabRow 0) (heap_alloc_last w1 _) (by rw [tabR_size]; exact tabI) (by rw [tabRow_size, tabR_size]) (tabRow_all 256) ?_)
  rw [World.setRow_alloc_new]
  have HT := Lib.hid (heap_alloc_last w1 (.cells tabR 27))
  have HB2 := Lib.hid (HB1.out.alloc HB1.out.size (.cells tabR 27))
  have hsz : w1.heap.size + 1 = (w1.alloc (.cells tabR 27)).heap.size := by simp
  rw [hsz]
  obtain ⟨g, hg⟩ : ∃ g, g = w1.heap.size := ⟨_, rfl⟩
  rw [← hg] at HT ⊢
  clear hsz
  generalize w1.alloc (.cells tabR 27) = w2 at *
  clear HB1 hg hz
  refine (take_yes _ _ 5 5 [1, 2, 3, 4, 5] rfl (Src.whole (heap_alloc_last w2 (.cells (icells .u8 [1, 2, 3, 4, 5]) 5))) (by simp [Byts]) (by omega) (by omega)).mono ?_
  rintro e w3 ⟨rfl, hb⟩
  rw [show word4b [1, 2, 3, 4, 5] = 16909060 from by decide]
  have hb' := ((Below.refl _ w2).alloc (Nat.le_refl _) (.cells (icells .u8 [1, 2, 3, 4, 5]) 5)).trans (hb.mono (by simp))
  have HT3 := Lib.hid (heap_on hb' HT.out)
  have HB3 := Lib.hid (HB2.out.trans (hb'.mono HB2.out.size))
  clear HT HB2 hb hb'
  go_wp2_with fail
  refine (take_no _ _ 3 3 (by omega)).mono ?_
  rintro e w4' ⟨rfl, rfl⟩
  have hb' := (Below.refl _ w3).alloc (Nat.le_refl _) (.cells #[.int .u8 1, .int .u8 2, .int .u8 3] 5)
  have HT4 := Lib.hid (heap_on hb' HT3.out)
  have HB4 := Lib.hid (HB3.out.trans (hb'.mono HB3.out.size))
  generalize w3.alloc (.cells #[.int .u8 1, .int .u8 2, .int .u8 3] 5) = w4 at *
  clear HT3 HB3 hb'
  go_wp2_with fail
  refine (of_call _ none 0 0 [] rfl (.inl rfl) (by simp) (by omega)).mono ?_
  rintro e w5 ⟨rfl, hb'⟩
  have HT5 := Lib.hid (heap_on hb' HT4.out)
  have HB5 := Lib.hid (HB4.out.trans (hb'.mono HB4.out.size))
  rw [show crcFeed 0 (joinC []) = 0 from crcFeed_nil 0]
  clear HT4 HB4 hb'
  go_wp2_with fail
  refine (of_lit w5 [49, 50, 51, 52, 53, 54, 55, 56, 57] 9 rfl (by simp [Byts]) (by omega) 5 24 3421780262 (by rw [crc_check9]; rfl)).mono ?_
  rintro e w6 ⟨rfl, hb'⟩
  have HT6 := Lib.hid (heap_on hb' HT5.out)
  have HB6 := Lib.hid (HB5.out.trans (hb'.mono HB5.out.size))
  have c0 : w6.cell? ⟨g, 0, none⟩ = some (.int .u32 0) := (tab_cell HT6.out 0 (by omega)).trans (by rw [row_0]; rfl)
  have c1 : w6.cell? ⟨g, 1, none⟩ = some (.int .u32 1996959894) := (tab_cell HT6.out 1 (by omega)).trans (by rw [row_1]; rfl)
  have c2 : w6.cell? ⟨g, 255, none⟩ = some (.int .u32 755167117) := (tab_cell HT6.out 255 (by omega)).trans (by rw [row_255]; rfl)
  clear HT5 HB5 hb'
  go_wp2_with fail
  refine (step_call 0 1 (by omega) (by omega) _).mono ?_
  rintro e w7 ⟨rfl, rfl⟩
  rw [crc_s1]
  clear c0 c1 c2 HT6
  go_wp2_with fail
  refine (of_lit w6 [49, 50, 51, 52] 4 rfl (by simp [Byts]) (by omega) 5 24 2615402659 (by rw [crc_4]; rfl)).mono ?_
  rintro e w7 ⟨rfl, hb'⟩
  have HB7 := Lib.hid (HB6.out.trans (hb'.mono HB6.out.size))
  clear HB6 hb'
  go_wp2_with fail
  refine (feed_two w7 5 24).mono ?_
  rintro e w8 ⟨rfl, hb'⟩
  have HB8 := Lib.hid (HB7.out.trans (hb'.mono HB7.out.size))
  clear HB7 hb' kc
  go_wp2_with fail
  refine (put_call 16909060 (by omega) w8).mono ?_
  rintro e w9 ⟨rfl, rfl⟩
  have HB9 := Lib.hid (HB8.out.alloc HB8.out.size (.cells (icells .u8 (be4 16909060)) 5))
  have hcv : (convert 24 9 (.slice (some ⟨w8.heap.size, 0, none⟩) 4 4)).run Try.prog (w8.alloc (.cells (icells .u8 (be4 16909060)) 5)) = .ok (.string ⟨#[1, 2, 3, 4]⟩) (w8.alloc (.cells (icells .u8 (be4 16909060)) 5)) :=
    run_bstr Try.underlying24 Try.underlying5 Try.underlying9 _ _ 4 4 (be4 16909060) rfl (Src.whole (heap_alloc_last w8 _))
  generalize w8.alloc (.cells (icells .u8 (be4 16909060)) 5) = w10 at *
  clear HB8
  go_wp2_with fail
  go_ret
  exact ⟨rfl, HB9.out⟩
end Go.Proofs.Ytpodepplfhjdfaa
