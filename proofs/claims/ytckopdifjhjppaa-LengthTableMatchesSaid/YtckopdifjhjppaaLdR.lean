/- Package lengthtable: Read. -/
import Derived.Test.YtckopdifjhjppaaLdX
set_option linter.unusedVariables false
set_option linter.unusedSimpArgs false
namespace Go.Proofs.Ytckopdifjhjppaa
open Go.RowKit

set_option maxRecDepth 100000 in
set_option maxHeartbeats 2000000 in
theorem read_call (sp : Option Addr) (n cap : Nat) (q : List Int) (hq : q.length = n) (hn : n ≤ 1000000) (w : World) (hs : Src w .i64 sp q) :
    Calls Try.prog 17 #[.slice sp n cap] w fun e w' => e = .returned (.tuple #[.agg (lg (readS tableV z0 0 q).1), .int .i64 (((readS tableV z0 0 q).2.1 : Nat) : Int), .int .i64 (readS tableV z0 0 q).2.2]) ∧ Below w.heap.size w w' := by
  have HRS := Lib.hid (Rdg.start q)
  generalize hX : readS tableV z0 0 q = X at *
  have HX : Unit → readS tableV z0 0 q = X := fun _ => hX
  clear hX
  have hzL := lngZ
  have hzT := tstZ
  have HS := Lib.hid hs
  clear hs
  go_enter Try.func17, Try.ntmps17
  go_upto_region 2 with fail
  have hr := heap_alloc2_old w (.cells (lg zL) 23) (.cells (tg z0) 25)
  have hx := heap_alloc2_new w (.cells (lg zL) 23) (.cells (tg z0) 25)
  have hb : Below w.heap.size w ((w.alloc (.cells (lg zL) 23)).alloc (.cells (tg z0) 25)) := ((Below.refl _ _).alloc (Nat.le_refl _) _).alloc (by simp) _
  generalize (w.alloc (.cells (lg zL) 23)).alloc (.cells (tg z0) 25) = w1 at hr hx hb ⊢
  have HR := Lib.hid hr
  have HXX := Lib.hid hx
  have HB := Lib.hid hb
  clear hr hx hb
  go_upto_region 3 with fail
  go_loopw [4, 10] (fun e i wr => ∃ (k : Nat) (c : TS), k ≤ n ∧ e = .int .i64 0 ∧ i = .int .i64 k ∧ Rdg q k c ∧ wr.heap[w.heap.size]? = some (.cells (lg zL) 23 (0, 0)) ∧ wr.heap[w.heap.size + 1]? = some (.cells (tg c) 25 (0, 0)) ∧ Below w.heap.size w wr) (fun _ i _ => n - (intOf i).toNat)
  case atStart => exact ⟨0, z0, by omega, rfl, rfl, HRS.out, HR.out, HXX.out, HB.out⟩
  case round =>
    obtain ⟨k, c, hk, rfl, rfl, hrd, hr, hx, hb⟩ := hrel
    have HRD := Lib.hid hrd
    have HBr := Lib.hid hb
    have HRr := Lib.hid hr
    clear hrd hb hr
    have hzs := lg_size zL_lng
    by_cases hlt : k < n
    · have hkq : k < q.length := by omega
      obtain ⟨g, o, rfl, hcb⟩ := (HS.out.below HBr.out).get hkq
      have HON := Lib.hid (HRD.out.on hkq)
      obtain ⟨hcy, ⟨f, hrch, hcnt⟩, hre⟩ := HRD.out
      rw [drop_at q k hkq] at hre
      have HRE := Lib.hid hre
      have hcL := hrch.len
      have HRC := Lib.hid hrch
      have HCN := Lib.hid hcnt
      have hkw : IntKind.i64.wrap ((k : Int) + 1) = (k : Int) + 1 := by rw [IntKind.wrap_i64]; omega
      generalize q.getD k 0 = b at hcb HON HRE
      clear hkq hre hrch hcnt HRD
      have HBC := Lib.hid (fun W => isBit_call b W)
      by_cases hbit : b = 0 ∨ b = 1
      · rw [decide_eq_true hbit] at HBC
        have HNC0 := Lib.hid (fun W => next_call c f k HRC.out hcy b hbit W)
        have HSD := Lib.hid (show nxS c b = if wayB tableV c b then wayS c b else z0 from rfl)
        have HED := Lib.hid (show nxE c b = if wayB tableV c b then 0 else 100 from rfl)
        have hDL : (nxS c b).L.length = 258 := by
          unfold nxS
          split
          · rw [wayS_len]; exact hcL
          · exact z0_len
        have HBAD := Lib.hid (show wayB tableV c b = false → X = (z0.L, 0, 100) from fun h => by rw [← HX (), HRE.out, readS_bad tableV c k hbit h])
        have HEND := Lib.hid (show wayB tableV c b = true → (wayS c b).y = 258 → X = ((wayS c b).L, k + 1, 0) from fun h h2 => by rw [← HX (), HRE.out, readS_end tableV c k hbit h h2])
        have HGO := Lib.hid (show wayB tableV c b = true → (wayS c b).y ≠ 258 → Rdg q (k + 1) (wayS c b) from HON.out hbit)
        have HLG := Lib.hid (show wayB tableV c b = true → Lng (wayS c b).L from fun h => by
          have := HRC.out.y0
          exact (HRC.out.step HCN.out (by omega) hbit h).1.lngN)
        clear hcy HRE HON HRC HCN hbit
        generalize nxS c b = D at HNC0 hDL HSD
        generalize nxE c b = E at HNC0 HED
        generalize wayS c b = D2 at HEND HGO HLG HSD
        generalize wayB tableV c b = ok at HBAD HEND HGO HLG HSD HED
        have HNC := Lib.hid HNC0.out
        clear HNC0
        go_upto_region 8 with (first
          | (with_reducible refine (HBC.out _).mono ?_
             rintro e w2 ⟨rfl, rfl⟩)
          | (refine wpList_load_row rfl 25 _ rfl (w.heap.size + 1) rfl 25 (tg c) (0, 0) _ hx Try.underlying25 rfl (tstIk hcL) ?_)
          | (with_reducible refine (HNC.out _).mono ?_
             rintro e w3 ⟨rfl, hb3⟩
             have hx3a := heap_on hb3 hx)
          | (refine wpList_store_row rfl 25 _ _ rfl (w.heap.size + 1) (tg D) rfl rfl 25 (tg c) hx3a (tstIk hDL) (by rw [tg_size hcL, tg_size hDL]) (tg_all _) ?_))
        have hx3 := setRow_heap _ _ _ (tg D) _ _ hx3a
        have hr3 : (w3.setRow (w.heap.size + 1) (tg D)).heap[w.heap.size]? = _ := (setRow_other _ _ _ _ (by omega)).trans (heap_on hb3 HRr.out)
        have HB3 := Lib.hid ((HBr.out.trans (hb3.mono HBr.out.size)).setRow (g := w.heap.size + 1) (by omega) (tg D))
        clear hx hb3 hx3a HRr HBr hcb HS
        generalize w3.setRow (w.heap.size + 1) (tg D) = w4 at hx3 hr3 HB3 ⊢
        cases ok with
        | false =>
          have HXE := Lib.hid (HBAD.out rfl)
          have he : E = 100 := HED.out
          subst he
          clear HBAD HEND HGO HLG HSD HED
          go_wp2_with (refine wpList_store_row rfl 23 _ _ rfl w.heap.size (lg zL) rfl rfl 23 (lg zL) hr3 lngI rfl (lg_all _) ?_)
          refine bodyPost_ret (v := .tuple #[.agg (lg zL), .int .i64 0, .int .i64 100]) ?_ rfl ⟨by rw [HXE.out]; rfl, HB3.out.setRow (Nat.le_refl _) _⟩
          exact results_cell_tmp2 Try.results17 _ _ w.heap.size 23 (lg zL) (0, 0) _ _ _ rfl rfl rfl (setRow_heap _ _ _ _ _ _ hr3) Try.underlying23 rfl lngI
        | true =>
          have he : E = 0 := HED.out
          have hd : D2 = D := HSD.out.symm
          subst he hd
          have HLL := Lib.hid (HLG.out rfl)
          have HID := Lib.hid (fun W => isDone_call D2 hDL W)
          clear HBAD HLG HSD HED
          by_cases hy : D2.y = 258
          · have HXE := Lib.hid (HEND.out rfl hy)
            rw [decide_eq_true hy] at HID
            clear HEND HGO hy
            go_wp2_with (first
              | (refine wpList_load_row rfl 25 _ rfl (w.heap.size + 1) rfl 25 (tg D2) (0, 0) _ hx3 Try.underlying25 rfl (tstIk hDL) ?_)
              | (with_reducible refine (HID.out _).mono ?_
                 rintro e w5 ⟨rfl, hb5⟩
                 have hrg := tg_range (heap_on hb5 hx3) hDL
                 have hr5 := heap_on hb5 hr3
                 have HB5 := Lib.hid (HB3.out.trans (hb5.mono HB3.out.size)))
              | (refine wpList_load_mid rfl 23 _ rfl (w.heap.size + 1) 0 rfl (lg D2.L).toList _ hrg Try.underlying23 rfl (by rw [Array.length_toList]; exact lngIk HLL.out) ?_)
              | (refine wpList_store_row rfl 23 _ _ rfl w.heap.size (lg D2.L) rfl rfl 23 (lg zL) hr5 (lngIk HLL.out) (by rw [lg_size zL_lng, lg_size HLL.out]) (lg_all _) ?_))
            refine bodyPost_ret (v := .tuple #[.agg (lg D2.L), .int .i64 ((k : Int) + 1), .int .i64 0]) ?_ rfl ⟨by rw [HXE.out]; rfl, HB5.out.setRow (Nat.le_refl _) _⟩
            exact results_cell_tmp2 Try.results17 _ _ w.heap.size 23 (lg D2.L) (0, 0) _ _ _ rfl rfl rfl (setRow_heap _ _ _ _ _ _ hr5) Try.underlying23 rfl (lngIk HLL.out)
          · have HG2 := Lib.hid (HGO.out rfl hy)
            rw [decide_eq_false hy] at HID
            clear HEND HGO hy
            go_wp2_with (first
              | (refine wpList_load_row rfl 25 _ rfl (w.heap.size + 1) rfl 25 (tg D2) (0, 0) _ hx3 Try.underlying25 rfl (tstIk hDL) ?_)
              | (with_reducible refine (HID.out _).mono ?_
                 rintro e w5 ⟨rfl, hb5⟩))
            exact ⟨⟨k + 1, D2, by omega, rfl, by go_num, HG2.out, heap_on hb5 hr3, heap_on hb5 hx3, HB3.out.trans (hb5.mono HB3.out.size)⟩, by simp [intOf]; omega⟩
      · rw [decide_eq_false hbit] at HBC
        have HXE := Lib.hid (show X = (z0.L, 0, 2) by rw [← HX (), HRE.out, readS_arg tableV c k (by omega)])
        have hr := HRr.out
        clear hcy HRE HON HRC HCN hbit
        go_wp2_with (first
          | (with_reducible refine (HBC.out _).mono ?_
             rintro e w2 ⟨rfl, rfl⟩)
          | (refine wpList_store_row rfl 23 _ _ rfl w.heap.size (lg zL) rfl rfl 23 (lg zL) hr lngI rfl (lg_all _) ?_))
        refine bodyPost_ret (v := .tuple #[.agg (lg zL), .int .i64 0, .int .i64 2]) ?_ rfl ⟨by rw [HXE.out]; rfl, HBr.out.setRow (Nat.le_refl _) _⟩
        exact results_cell_tmp2 Try.results17 _ _ w.heap.size 23 (lg zL) (0, 0) _ _ _ rfl rfl rfl (setRow_heap _ _ _ _ _ _ hr) Try.underlying23 rfl lngI
    · have HXE := Lib.hid (show X = (z0.L, 0, 50) by
        rw [← HX (), HRD.out.2.2, List.drop_of_length_le (by omega)]
        rfl)
      have hr := HRr.out
      clear HRD
      go_wp2_with (refine wpList_store_row rfl 23 _ _ rfl w.heap.size (lg zL) rfl rfl 23 (lg zL) hr lngI rfl (lg_all _) ?_)
      refine bodyPost_ret (v := .tuple #[.agg (lg zL), .int .i64 0, .int .i64 50]) ?_ rfl ⟨by rw [HXE.out]; rfl, HBr.out.setRow (Nat.le_refl _) _⟩
      exact results_cell_tmp2 Try.results17 _ _ w.heap.size 23 (lg zL) (0, 0) _ _ _ rfl rfl rfl (setRow_heap _ _ _ _ _ _ hr) Try.underlying23 rfl lngI
end Go.Proofs.Ytckopdifjhjppaa
