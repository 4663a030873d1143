import Derived.Test.YthljoojcpbignaaGreatDoorMk05
import Derived.ArgAppend
namespace Go.Proofs.YthljoojcpbignaaGreatDoor
open Go.RowKit Go.Deep
set_option maxHeartbeats 40000000
set_option maxRecDepth 100000
theorem l1show_text (m s : Int) (a : Option Addr) (len cap : Nat) (bs : List Int) (w : World) (hB : Bs w a len bs) :
 Calls Tryz.prog 99 #[.agg #[.int .i64 2, .slice a len cap, .int .i64 m, .int .i64 s]] w fun e w' => DigRes w (34 :: (esc bs ++ [34])) e w' := by
 obtain ⟨i0, hi0, hzz⟩ := Option.map_eq_some_iff.1 Tryz.info5
 simp only [Prod.mk.injEq] at hzz
 obtain ⟨hi2, hi1, hi3⟩ := hzz
 have hlen := hB.1
 have h20 := hB.2.1
 have hsz : (w.alloc (.cells #[.int .i64 2, .slice a len cap, .int .i64 m, .int .i64 s] 93)).heap.size = w.heap.size + 1 := by simp
 have HR0 : Hd (Row8 ((w.alloc (.cells #[.int .i64 2, .slice a len cap, .int .i64 m, .int .i64 s] 93)).alloc (.cells #[.int .u8 34] 5)) (w.heap.size + 1) (w.heap.size + 1) 1 1 [34]) := by
  have := Row8.new (w.alloc (.cells #[.int .i64 2, .slice a len cap, .int .i64 m, .int .i64 s] 93)) 34
  rwa [hsz] at this
 have HB0 : Hd (Below (w.heap.size + 1) (w.alloc (.cells #[.int .i64 2, .slice a len cap, .int .i64 m, .int .i64 s] 93)) ((w.alloc (.cells #[.int .i64 2, .slice a len cap, .int .i64 m, .int .i64 s] 93)).alloc (.cells #[.int .u8 34] 5))) := by
  have := bl_a (w := (w.alloc (.cells #[.int .i64 2, .slice a len cap, .int .i64 m, .int .i64 s] 93))) (.cells #[.int .u8 34] 5)
  rwa [Bl, hsz] at this
 have HX : Hd (∀ wr, Below (w.heap.size + 1) (w.alloc (.cells #[.int .i64 2, .slice a len cap, .int .i64 m, .int .i64 s] 93)) wr → wr.cell? ⟨w.heap.size, 1, none⟩ = some (.slice a len cap)) := fun wr h => (h.cell (p := ⟨w.heap.size, 1, none⟩) (Nat.lt_succ_self _)).trans (by simp [go_sem])
 have HW := iH (fun wr (h : Below (w.heap.size + 1) _ wr) => (bl_a (w := w) (.cells #[.int .i64 2, .slice a len cap, .int .i64 m, .int .i64 s] 93)).trans (h.mono (Nat.le_succ _)))
 have HBs := iH hB
 have HL := iH hlen
 clear hB hlen hsz
 go_in
 go_wp2_with fail
 go_loopw [3, 4] (fun x i wr => ∃ (k g n cap' : Nat), k ≤ len ∧ i = .int .i64 k ∧ x = .slice (some ⟨g, 0, none⟩) n cap' ∧ n ≤ 1 + 2 * k ∧ Hd (Row8 wr (w.heap.size + 1) g n cap' (34 :: esc (bs.take k))) ∧ Hd (Below (w.heap.size + 1) (w.alloc (.cells #[.int .i64 2, .slice a len cap, .int .i64 m, .int .i64 s] 93)) wr))
  (fun _ i _ => len - (intOf i).toNat)
 case atStart => exact ⟨0, w.heap.size + 1, 1, 1, nZ, rfl, rfl, by omega, HR0, HB0⟩
 obtain ⟨k, g, n, cap', hk, rfl, rfl, hn, HR, HB⟩ := hrel
 have hbox := HX.o wr HB.o
 clear HR0 HB0
 by_cases hlk : k < len
 · obtain ⟨b, off, rfl, hbl, hc⟩ := HBs.o.2.2.2.resolve_left (by omega)
   have hx := ((HW.o wr HB.o).cell (p := ⟨b, off + k, none⟩) hbl).trans (hc k hlk)
   have HXV := iH (fun wr (h : Below _ _ wr) => ((HW.o wr h).cell (p := ⟨b, off + k, none⟩) hbl).trans (hc k hlk))
   have HE : Hd (esc (bs.take (k + 1)) = esc (bs.take k) ++ (if bs[k]?.getD 0 = 34 ∨ bs[k]?.getD 0 = 92 then [92, bs[k]?.getD 0] else [bs[k]?.getD 0])) := by
    show _ = _
    rw [take_snoc bs k (by have := HL.o; omega), esc_snoc]
   clear hc
   generalize bs[k]?.getD 0 = v at *
   have HR1 : ∀ y : Int, Hd (Row8 (wr.alloc (.cells #[.int .u8 y] 5)) (w.heap.size + 1) g n cap' (34 :: esc (bs.take k))) := fun y => HR.o.below (bl_a _)
   have HB1 : ∀ y : Int, Hd (Below (w.heap.size + 1) (w.alloc (.cells #[.int .i64 2, .slice (some ⟨b, off, none⟩) len cap, .int .i64 m, .int .i64 s] 93)) (wr.alloc (.cells #[.int .u8 y] 5))) := fun y => HB.o.alloc (Nat.le_trans (by simp) HB.o.size) _
   by_cases hq : v = 34 ∨ v = 92
   · have HE' : Hd (esc (bs.take (k + 1)) = esc (bs.take k) ++ [92, v]) := by show _ = _; rw [HE.o, if_pos hq]
     clear HE
     have hor : ((v == 34) || (v == 92)) = true := by simpa using hq
     cases h34 : (v == 34)
     · have h92 : (v == 92) = true := by simpa [h34] using hor
       clear hq hor
       have hs1 : (w.heap.size + 1) ≤ (wr.alloc (.cells #[.int .u8 92] 5)).heap.size := Nat.le_trans (by simp) (HB1 92).o.size
       go_wp2_with (first
        | (refine wpList_append_lies _ rfl (.tmp 47) (.tmp 48) 42 rfl (w.heap.size + 1) 5 i0 (.int .u8 0) 1 1 Tryz.underlying42 hi0 hi2 hi1 hi3 rfl (by omega) (.slice (some ⟨g, 0, none⟩) n cap') n ((34 :: esc (bs.take k)).map (Value.int .u8)) rfl (HR1 92).o.1 ⟨wr.heap.size, 0, none⟩ 1 _ [.int .u8 92] rfl rfl (one_news wr 92) (by simp [Value.oneCell']) (by omega) (by unfold maxLen; omega) (by omega) hs1 _ rfl ?_; intro g3 cap3 w3 hown3 hgr3 hgg3 hlt3; have hr3 : Row8 w3 (w.heap.size + 1) g3 (n + 1) cap3 ((34 :: esc (bs.take k)) ++ [92]) := Row8.grown (us := 34 :: esc (bs.take k)) (bs := [92]) hown3 rfl hlt3; have hb3 := (HB1 92).o.trans (grown_below (g := g) hgr3 HR.o.ge hs1); have hbox3 := HX.o w3 hb3; have hx3 := HXV.o w3 hb3; clear hown3 hgr3 hgg3; have HR3 : Hd (Row8 (w3.alloc (.cells #[.int .u8 v] 5)) (w.heap.size + 1) g3 (n + 1) cap3 ((34 :: esc (bs.take k)) ++ [92])) := hr3.below (bl_a _); have HB3' := hb3.alloc (Nat.le_trans (by simp) hb3.size) (.cells #[.int .u8 v] 5); have hs3 : (w.heap.size + 1) ≤ (w3.alloc (.cells #[.int .u8 v] 5)).heap.size := Nat.le_trans (by simp) HB3'.size; have HB3 : Hd (Below (w.heap.size + 1) (w.alloc (.cells #[.int .i64 2, .slice (some ⟨b, off, none⟩) len cap, .int .i64 m, .int .i64 s] 93)) (w3.alloc (.cells #[.int .u8 v] 5))) := HB3'; clear hr3 hb3 HB3')
        | (refine wpList_append_lies _ rfl (.tmp 50) (.tmp 56) 42 rfl (w.heap.size + 1) 5 i0 (.int .u8 0) 1 1 Tryz.underlying42 hi0 hi2 hi1 hi3 rfl (by omega) (.slice (some ⟨g3, 0, none⟩) (n + 1) cap3) (n + 1) (((34 :: esc (bs.take k)) ++ [92]).map (Value.int .u8)) rfl HR3.o.1 ⟨w3.heap.size, 0, none⟩ 1 _ [.int .u8 v] rfl rfl (one_news w3 v) (by simp [Value.oneCell']) (by omega) (by unfold maxLen; omega) (by omega) hs3 _ rfl ?_; intro g4 cap4 w4 hown4 hgr4 hgg4 hlt4; have HR4 : Hd (Row8 w4 (w.heap.size + 1) g4 (n + 1 + 1) cap4 (((34 :: esc (bs.take k)) ++ [92]) ++ [v])) := Row8.grown (us := (34 :: esc (bs.take k)) ++ [92]) (bs := [v]) hown4 rfl hlt4; have HB4' := HB3.o.trans (grown_below (g := g3) hgr4 HR3.o.ge hs3); have HB4 : Hd (Below (w.heap.size + 1) (w.alloc (.cells #[.int .i64 2, .slice (some ⟨b, off, none⟩) len cap, .int .i64 m, .int .i64 s] 93)) w4) := HB4'; clear hown4 hgr4 hgg4 HB4'))
       go_roundw
       case rel =>
        refine ⟨k + 1, g4, n + 1 + 1, cap4, by omega, by go_num, rfl, by omega, ?_, HB4⟩
        have h := HR4.o
        show Row8 _ _ _ _ _ _
        rw [HE'.o]
        simpa using h
       case measure => simp [intOf]; omega
     clear hq hor
     have hs1 : (w.heap.size + 1) ≤ (wr.alloc (.cells #[.int .u8 92] 5)).heap.size := Nat.le_trans (by simp) (HB1 92).o.size
     go_wp2_with (first
      | (refine wpList_append_lies _ rfl (.tmp 47) (.tmp 48) 42 rfl (w.heap.size + 1) 5 i0 (.int .u8 0) 1 1 Tryz.underlying42 hi0 hi2 hi1 hi3 rfl (by omega) (.slice (some ⟨g, 0, none⟩) n cap') n ((34 :: esc (bs.take k)).map (Value.int .u8)) rfl (HR1 92).o.1 ⟨wr.heap.size, 0, none⟩ 1 _ [.int .u8 92] rfl rfl (one_news wr 92) (by simp [Value.oneCell']) (by omega) (by unfold maxLen; omega) (by omega) hs1 _ rfl ?_; intro g3 cap3 w3 hown3 hgr3 hgg3 hlt3; have hr3 : Row8 w3 (w.heap.size + 1) g3 (n + 1) cap3 ((34 :: esc (bs.take k)) ++ [92]) := Row8.grown (us := 34 :: esc (bs.take k)) (bs := [92]) hown3 rfl hlt3; have hb3 := (HB1 92).o.trans (grown_below (g := g) hgr3 HR.o.ge hs1); have hbox3 := HX.o w3 hb3; have hx3 := HXV.o w3 hb3; clear hown3 hgr3 hgg3; have HR3 : Hd (Row8 (w3.alloc (.cells #[.int .u8 v] 5)) (w.heap.size + 1) g3 (n + 1) cap3 ((34 :: esc (bs.take k)) ++ [92])) := hr3.below (bl_a _); have HB3' := hb3.alloc (Nat.le_trans (by simp) hb3.size) (.cells #[.int .u8 v] 5); have hs3 : (w.heap.size + 1) ≤ (w3.alloc (.cells #[.int .u8 v] 5)).heap.size := Nat.le_trans (by simp) HB3'.size; have HB3 : Hd (Below (w.heap.size + 1) (w.alloc (.cells #[.int .i64 2, .slice (some ⟨b, off, none⟩) len cap, .int .i64 m, .int .i64 s] 93)) (w3.alloc (.cells #[.int .u8 v] 5))) := HB3'; clear hr3 hb3 HB3')
      | (refine wpList_append_lies _ rfl (.tmp 50) (.tmp 56) 42 rfl (w.heap.size + 1) 5 i0 (.int .u8 0) 1 1 Tryz.underlying42 hi0 hi2 hi1 hi3 rfl (by omega) (.slice (some ⟨g3, 0, none⟩) (n + 1) cap3) (n + 1) (((34 :: esc (bs.take k)) ++ [92]).map (Value.int .u8)) rfl HR3.o.1 ⟨w3.heap.size, 0, none⟩ 1 _ [.int .u8 v] rfl rfl (one_news w3 v) (by simp [Value.oneCell']) (by omega) (by unfold maxLen; omega) (by omega) hs3 _ rfl ?_; intro g4 cap4 w4 hown4 hgr4 hgg4 hlt4; have HR4 : Hd (Row8 w4 (w.heap.size + 1) g4 (n + 1 + 1) cap4 (((34 :: esc (bs.take k)) ++ [92]) ++ [v])) := Row8.grown (us := (34 :: esc (bs.take k)) ++ [92]) (bs := [v]) hown4 rfl hlt4; have HB4' := HB3.o.trans (grown_below (g := g3) hgr4 HR3.o.ge hs3); have HB4 : Hd (Below (w.heap.size + 1) (w.alloc (.cells #[.int .i64 2, .slice (some ⟨b, off, none⟩) len cap, .int .i64 m, .int .i64 s] 93)) w4) := HB4'; clear hown4 hgr4 hgg4 HB4'))
     go_roundw
     case rel =>
      refine ⟨k + 1, g4, n + 1 + 1, cap4, by omega, by go_num, rfl, by omega, ?_, HB4⟩
      have h := HR4.o
      show Row8 _ _ _ _ _ _
      rw [HE'.o]
      simpa using h
     case measure => simp [intOf]; omega
   have HE' : Hd (esc (bs.take (k + 1)) = esc (bs.take k) ++ [v]) := by show _ = _; rw [HE.o, if_neg hq]
   have h34 : (v == 34) = false := by simp; omega
   have h92 : (v == 92) = false := by simp; omega
   clear HE hq
   have hs1 : (w.heap.size + 1) ≤ (wr.alloc (.cells #[.int .u8 v] 5)).heap.size := Nat.le_trans (by simp) (HB1 v).o.size
   go_wp2_with (refine wpList_append_lies _ rfl (.tmp 50) (.tmp 56) 42 rfl (w.heap.size + 1) 5 i0 (.int .u8 0) 1 1 Tryz.underlying42 hi0 hi2 hi1 hi3 rfl (by omega) (.slice (some ⟨g, 0, none⟩) n cap') n ((34 :: esc (bs.take k)).map (Value.int .u8)) rfl (HR1 v).o.1 ⟨wr.heap.size, 0, none⟩ 1 _ [.int .u8 v] rfl rfl (one_news wr v) (by simp [Value.oneCell']) (by omega) (by unfold maxLen; omega) (by omega) hs1 _ rfl ?_; intro g4 cap4 w4 hown4 hgr4 hgg4 hlt4; have HR4 : Hd (Row8 w4 (w.heap.size + 1) g4 (n + 1) cap4 ((34 :: esc (bs.take k)) ++ [v])) := Row8.grown (us := 34 :: esc (bs.take k)) (bs := [v]) hown4 rfl hlt4; have HB4' := (HB1 v).o.trans (grown_below (g := g) hgr4 HR.o.ge hs1); have HB4 : Hd (Below (w.heap.size + 1) (w.alloc (.cells #[.int .i64 2, .slice (some ⟨b, off, none⟩) len cap, .int .i64 m, .int .i64 s] 93)) w4) := HB4'; clear hown4 hgr4 hgg4 HB4')
   go_roundw
   case rel =>
    refine ⟨k + 1, g4, n + 1, cap4, by omega, by go_num, rfl, by omega, ?_, HB4⟩
    have := HR4.o
    show Row8 _ _ _ _ _ _
    rw [HE'.o]
    exact this
   case measure => simp [intOf]; omega
 obtain rfl : k = len := by omega
 have HR' : Hd (Row8 wr (w.heap.size + 1) g n cap' (34 :: esc bs)) := by
  have := HR.o
  rwa [List.take_of_length_le (by have := HL.o; omega)] at this
 have HR1 : Hd (Row8 (wr.alloc (.cells #[.int .u8 34] 5)) (w.heap.size + 1) g n cap' (34 :: esc bs)) := HR'.o.below (bl_a _)
 have HB1 : Hd (Below (w.heap.size + 1) (w.alloc (.cells #[.int .i64 2, .slice a k cap, .int .i64 m, .int .i64 s] 93)) (wr.alloc (.cells #[.int .u8 34] 5))) := HB.o.alloc (Nat.le_trans (by simp) HB.o.size) _
 have hs1 : (w.heap.size + 1) ≤ (wr.alloc (.cells #[.int .u8 34] 5)).heap.size := Nat.le_trans (by simp) HB1.o.size
 have HNL : Hd (n = (34 :: esc bs : List Int).length) := by
  have := HR'.o.1.1
  show _ = _
  simpa using this.symm
 clear HR
 go_wp2_with (refine wpList_append_lies _ rfl (.tmp 58) (.tmp 59) 42 rfl (w.heap.size + 1) 5 i0 (.int .u8 0) 1 1 Tryz.underlying42 hi0 hi2 hi1 hi3 rfl (by omega) (.slice (some ⟨g, 0, none⟩) n cap') n ((34 :: esc bs).map (Value.int .u8)) rfl HR1.o.1 ⟨wr.heap.size, 0, none⟩ 1 _ [.int .u8 34] rfl rfl (one_news wr 34) (by simp [Value.oneCell']) (by omega) (by unfold maxLen; omega) (by omega) hs1 _ rfl ?_; intro g4 cap4 w4 hown4 hgr4 hgg4 hlt4; have hr4 := (Row8.grown (us := 34 :: esc bs) (bs := [34]) hown4 rfl hlt4).mono (B' := w.heap.size) (Nat.le_succ _); have hb4 := HB1.o.trans (grown_below (g := g) hgr4 HR'.o.ge hs1); clear hown4 hgr4 hgg4)
 go_ret
 have el : (34 :: (esc bs ++ [34]) : List Int).length = n + 1 := by rw [HNL.o]; simp
 exact ⟨g4, cap4, by rw [el]; rfl, by rw [el]; exact hr4, HW.o _ hb4⟩
theorem grown_row {w4 : World} {B B' n : Nat} {v : Value} {us bs : List Int} (h : w4.ownsRow B' 5 1 v n (us.map (Value.int .u8) ++ bs.map (Value.int .u8))) (hn : 1 ≤ n) (hB : B ≤ B') :
 ∃ g cap, v = .slice (some ⟨g, 0, none⟩) n cap ∧ Row8 w4 B g n cap (us ++ bs) := by
 obtain ⟨h1, h2⟩ := h
 rw [← List.map_append] at h1 h2
 rcases h2 with ⟨_, h2⟩ | ⟨g, cap, cur, hv, hg, hh, hc⟩
 · omega
 refine ⟨g, cap, hv, ⟨h1, .inr ⟨g, cap, cur, rfl, Nat.le_trans hB hg, hh, hc⟩⟩, ?_⟩
 apply Classical.byContradiction
 intro hlt
 rw [Array.getElem?_eq_none (by omega)] at hh
 cases hh
theorem l1show_blank (n : Nat) (s : Int) (a : Option Addr) (len cap : Nat) (w : World) (hn : n ≤ 9223372036854775807) :
 Calls Tryz.prog 99 #[.agg #[.int .i64 1, .slice a len cap, .int .i64 n, .int .i64 s]] w fun e w' => DigRes w (95 :: 58 :: digitsL n) e w' := by
 obtain ⟨i0, hi0, hzz⟩ := Option.map_eq_some_iff.1 Tryz.info5
 simp only [Prod.mk.injEq] at hzz
 obtain ⟨hi2, hi1, hi3⟩ := hzz
 have D := fun w => l1digits_any n w hn
 have hcv := fun o => Go.Joins.run_convert_bytes_const_at (P := Tryz.prog) (w.alloc o) 42 5 #[.int .u8 95, .int .u8 58] 2 2 (w.heap.size + 1) (by simp) Tryz.underlying42 Tryz.underlying5
 have hL := digitsL_len 19 n (by omega)
 have hp := digitsL_pos n
 have HO : Hd (∀ o j u, [Value.int .u8 95, Value.int .u8 58][j]? = some u → ((w.alloc o).alloc (.cells #[.int .u8 95, .int .u8 58] 5 (2, 3))).cell? ((⟨w.heap.size + 1, 0, none⟩ : Addr).add j) = some u) := by
  intro o j u hj
  have ea : (⟨w.heap.size + 1, 0, none⟩ : Addr).add j = ⟨w.heap.size + 1, j, none⟩ := by
   by_cases h0 : j = 0 <;> simp [Addr.add, h0]
  rw [ea, Go.Joins.cell_alloc_mark_at _ _ _ _ _ _ (by simp), ← hj]
  simp
 generalize digitsL n = ds at *
 go_in
 go_wp2_with fail
 refine (D _).mono ?_
 rintro e w3 ⟨g3, cap3, rfl, hr3, hb3⟩
 have HO3 : Hd (∀ j u, [Value.int .u8 95, Value.int .u8 58][j]? = some u → w3.cell? ((⟨w.heap.size + 1, 0, none⟩ : Addr).add j) = some u) := by
  intro j u hj
  have ea : (⟨w.heap.size + 1, 0, none⟩ : Addr).add j = ⟨w.heap.size + 1, j, none⟩ := by
   by_cases h0 : j = 0 <;> simp [Addr.add, h0]
  have := fun o => HO.o o j u hj
  simp only [ea] at this ⊢
  rw [hb3.cell (by simp)]
  exact this _
 have HB3 := iH (bl_trans (bl_alloc (bl_a _) _) hb3)
 have HN3 := iH hr3.news
 clear hr3 hb3 HO D hcv
 go_wp2_with (refine wpList_append_grows _ rfl (.tmp 18) (.tmp 21) 42 rfl 5 i0 (.int .u8 0) 1 1 Tryz.underlying42 hi0 hi2 hi1 hi3 rfl (by omega) (some ⟨w.heap.size + 1, 0, none⟩) 2 2 [.int .u8 95, .int .u8 58] rfl (by simp) rfl (fun b hb => by cases hb; exact HO3.o) ⟨g3, 0, none⟩ ds.length _ (ds.map (Value.int .u8)) rfl (by simp) HN3.o (by intro u hu; simp only [List.mem_map] at hu; obtain ⟨q, _, rfl⟩ := hu; rfl) (by omega) (by unfold maxLen; omega) (by omega) ?_; intro v4 w4 hown4 hgr4; have H4 : Hd (∃ g4 cap4, v4 = .slice (some ⟨g4, 0, none⟩) (2 + ds.length) cap4 ∧ Row8 w4 w.heap.size g4 (2 + ds.length) cap4 (95 :: 58 :: ds)) := grown_row (us := [95, 58]) (bs := ds) hown4 (by omega) HB3.o.size; have HB4 : Hd (Bl w w4) := HB3.o.trans ⟨hgr4.os, hgr4.tape, hgr4.output, hgr4.size, fun b hb => hgr4.block b (Nat.lt_of_lt_of_le hb HB3.o.size) (by simp)⟩; clear hown4 hgr4; obtain ⟨g4, cap4, rfl, hr4⟩ := H4.o)
 go_ret
 have el : (95 :: 58 :: ds : List Int).length = 2 + ds.length := by simp; omega
 exact ⟨g4, cap4, by rw [el]; rfl, by rw [el]; exact hr4, HB4.o⟩
theorem l1digits_int (k : Int) (w : World) (h0 : 0 ≤ k) (h1 : k ≤ 9223372036854775807) : Calls Tryz.prog 69 #[.int .i64 k] w fun e w' => DigRes w (digitsL k.toNat) e w' := by
 have := l1digits_any k.toNat w (by omega)
 rwa [Int.toNat_of_nonneg h0] at this
def numL (n : Int) (s : Nat) : List Int :=
 digitsL (n / p10 s).toNat ++ (if s = 0 then [] else 46 :: (List.replicate (s - (digitsL (n % p10 s).toNat).length) 48 ++ digitsL (n % p10 s).toNat))
theorem below_nil {w w' : World} {B : Nat} (h : w.grownBy w' none) (hw : B ≤ w.heap.size) : Below B w w' :=
 ⟨h.os, h.tape, h.output, h.size, fun b hb => h.block b (by omega) (by simp)⟩
theorem news_grown {w w' : World} {g g' : Nat} {vs : List Value} (h : w.grownBy w' (some g)) (hne : g' ≠ g) (hl : g' < w.heap.size) (hc : ∀ j u, vs[j]? = some u → w.cell? ((⟨g', 0, none⟩ : Addr).add j) = some u) :
 ∀ j u, vs[j]? = some u → w'.cell? ((⟨g', 0, none⟩ : Addr).add j) = some u := by
 intro j u hj
 have hb : ((⟨g', 0, none⟩ : Addr).add j).block = g' := by
  by_cases h0 : j = 0 <;> simp [Addr.add, h0]
 rw [World.cell?_of_block (h.block _ (by rw [hb]; exact hl) (by rw [hb]; simpa using hne))]
 exact hc j u hj
theorem news_alloc {w : World} {g' : Nat} {vs : List Value} (o : Obj) (hl : g' < w.heap.size) (hc : ∀ j u, vs[j]? = some u → w.cell? ((⟨g', 0, none⟩ : Addr).add j) = some u) :
 ∀ j u, vs[j]? = some u → (w.alloc o).cell? ((⟨g', 0, none⟩ : Addr).add j) = some u := by
 intro j u hj
 have hb : ((⟨g', 0, none⟩ : Addr).add j).block = g' := by
  by_cases h0 : j = 0 <;> simp [Addr.add, h0]
 rw [(bl_a (w := w) o).cell (by rw [hb]; exact hl)]
 exact hc j u hj
theorem far {gx g6 g5 H nx cx : Nat} (h : (Value.slice (some ⟨gx, 0, none⟩) nx cx).ownBlock = some g6 ∨ g6 = H) (hne : gx ≠ g5) (hl : g5 < H) : g6 ≠ g5 := by
 rcases h with h | h
 · have : gx = g6 := by simpa [Value.ownBlock] using h
   omega
 omega
theorem l1number_pos (n : Int) (s : Nat) (a : Option Addr) (len cap : Nat) (w : World) (hs : s ≤ 6) (hn : 0 ≤ n) (hn' : n ≤ 9223372036854775807) :
 Calls Tryz.prog 135 #[.agg #[.int .i64 3, .slice a len cap, .int .i64 n, .int .i64 s]] w fun e w' => DigRes w (numL n s) e w' := by
 obtain ⟨i0, hi0, hzz⟩ := Option.map_eq_some_iff.1 Tryz.info5
 simp only [Prod.mk.injEq] at hzz
 obtain ⟨hi2, hi1, hi3⟩ := hzz
 have P := fun w => l1pow_any s w hs
 have hp := p10_pos s
 have hp6 := p10_le hs
 have d0 : 0 ≤ n / p10 s := Int.ediv_nonneg hn (by omega)
 have d1 : n / p10 s ≤ n := Int.ediv_le_self _ hn
 have m0 : 0 ≤ n % p10 s := Int.emod_nonneg _ (by omega)
 have m1 : n % p10 s < p10 s := Int.emod_lt_of_pos _ (by omega)
 have D1 := fun w => l1digits_int (n / p10 s) w d0 (by omega)
 have D2 := fun w => l1digits_int (n % p10 s) w m0 (by omega)
 have hL1 := digitsL_len 19 (n / p10 s).toNat (by omega)
 have hL2 := digitsL_len 6 (n % p10 s).toNat (by omega)
 have hq1 := digitsL_pos (n / p10 s).toNat
 have hq2 := digitsL_pos (n % p10 s).toNat
 unfold numL
 generalize digitsL (n / p10 s).toNat = d at *
 generalize digitsL (n % p10 s).toNat = f at *
 go_in
 go_wp2_with fail
 refine (P _).mono ?_
 rintro e w1 ⟨rfl, rfl⟩
 go_wp2_with fail
 refine (D1 _).mono ?_
 rintro e w2 ⟨g2, cap2, rfl, hr2, hb2⟩
 have hsz : (w.alloc (.cells #[.int .i64 3, .slice a len cap, .int .i64 n, .int .i64 s] 93)).heap.size = w.heap.size + 1 := by simp
 rw [hsz] at hr2 hb2
 have HX : Hd (∀ wr, Below (w.heap.size + 1) (w.alloc (.cells #[.int .i64 3, .slice a len cap, .int .i64 n, .int .i64 s] 93)) wr → wr.cell? ⟨w.heap.size, 3, none⟩ = some (.int .i64 s)) := fun wr h => (h.cell (p := ⟨w.heap.size, 3, none⟩) (Nat.lt_succ_self _)).trans (by simp [go_sem])
 have HW := iH (fun wr (h : Below (w.heap.size + 1) _ wr) => (bl_a (w := w) (.cells #[.int .i64 3, .slice a len cap, .int .i64 n, .int .i64 s] 93)).trans (h.mono (Nat.le_succ _)))
 have HN2 := iH hr2.news
 have HB2 := iH hb2
 have hs2 : (w.heap.size + 1) ≤ w2.heap.size := by have := hb2.size; rwa [hsz] at this
 clear hr2 hb2 hsz D1
 by_cases hs0 : s = 0
 · go_wp2_with (refine wpList_append_lies _ rfl (.tmp 16) (.tmp 22) 42 rfl (w.heap.size + 1) 5 i0 (.int .u8 0) 1 1 Tryz.underlying42 hi0 hi2 hi1 hi3 rfl (by omega) (.slice none 0 0) 0 [] rfl (World.ownsRow_nil _ _ _ _) ⟨g2, 0, none⟩ d.length _ (d.map (Value.int .u8)) rfl (by simp) HN2.o (oneCell_map d) (by omega) (by unfold maxLen; omega) (by omega) hs2 _ rfl ?_; intro g3 cap3 w3 hown3 hgr3 hgg3 hlt3; have HR3' : Row8 w3 (w.heap.size + 1) g3 (0 + d.length) cap3 ([] ++ d) := Row8.grown (us := []) (bs := d) hown3 rfl hlt3; rw [Nat.zero_add, List.nil_append] at HR3'; have hb3 := HB2.o.trans (below_nil (B := (w.heap.size + 1)) hgr3 hs2); have HR3 : Hd (Row8 w3 (w.heap.size + 1) g3 d.length cap3 d) := HR3'; have HB3 : Hd (Below (w.heap.size + 1) (w.alloc (.cells #[.int .i64 3, .slice a len cap, .int .i64 n, .int .i64 s] 93)) w3) := hb3; have hx3 := HX.o w3 hb3; clear hown3 hgr3 hgg3 hb3 HR3')
   go_ret
   exact ⟨g3, cap3, rfl, HR3.o.mono (B' := w.heap.size) (Nat.le_succ _), HW.o _ HB3.o⟩
 go_wp2_with (first | (refine wpList_append_lies _ rfl (.tmp 16) (.tmp 22) 42 rfl (w.heap.size + 1) 5 i0 (.int .u8 0) 1 1 Tryz.underlying42 hi0 hi2 hi1 hi3 rfl (by omega) (.slice none 0 0) 0 [] rfl (World.ownsRow_nil _ _ _ _) ⟨g2, 0, none⟩ d.length _ (d.map (Value.int .u8)) rfl (by simp) HN2.o (oneCell_map d) (by omega) (by unfold maxLen; omega) (by omega) hs2 _ rfl ?_; intro g3 cap3 w3 hown3 hgr3 hgg3 hlt3; have HR3' : Row8 w3 (w.heap.size + 1) g3 (0 + d.length) cap3 ([] ++ d) := Row8.grown (us := []) (bs := d) hown3 rfl hlt3; rw [Nat.zero_add, List.nil_append] at HR3'; have hb3 := HB2.o.trans (below_nil (B := (w.heap.size + 1)) hgr3 hs2); have HR3 : Hd (Row8 w3 (w.heap.size + 1) g3 d.length cap3 d) := HR3'; have HB3 : Hd (Below (w.heap.size + 1) (w.alloc (.cells #[.int .i64 3, .slice a len cap, .int .i64 n, .int .i64 s] 93)) w3) := hb3; have hx3 := HX.o w3 hb3; clear hown3 hgr3 hgg3 hb3 HR3'; have HR3a : Hd (Row8 (w3.alloc (.cells #[.int .u8 46] 5)) (w.heap.size + 1) g3 d.length cap3 d) := HR3.o.below (bl_a _); have HB3a : Hd (Below (w.heap.size + 1) (w.alloc (.cells #[.int .i64 3, .slice a len cap, .int .i64 n, .int .i64 s] 93)) (w3.alloc (.cells #[.int .u8 46] 5))) := HB3.o.alloc (Nat.le_trans (by simp) HB3.o.size) _; have hs3a : (w.heap.size + 1) ≤ (w3.alloc (.cells #[.int .u8 46] 5)).heap.size := Nat.le_trans (by simp) HB3a.o.size) | (refine wpList_append_lies _ rfl (.tmp 28) (.tmp 29) 42 rfl (w.heap.size + 1) 5 i0 (.int .u8 0) 1 1 Tryz.underlying42 hi0 hi2 hi1 hi3 rfl (by omega) (.slice (some ⟨g3, 0, none⟩) d.length cap3) d.length ((d).map (Value.int .u8)) rfl HR3a.o.1 ⟨w3.heap.size, 0, none⟩ 1 _ [.int .u8 46] rfl rfl (one_news w3 46) (by simp [Value.oneCell']) (by omega) (by unfold maxLen; omega) (by omega) hs3a _ rfl ?_; intro g4 cap4 w4 hown4 hgr4 hgg4 hlt4; have HR4' : Row8 w4 (w.heap.size + 1) g4 (d.length + 1) cap4 (d ++ [46]) := Row8.grown (us := d) (bs := [46]) hown4 rfl hlt4; have hb4 := HB3a.o.trans (grown_below (g := g3) hgr4 HR3.o.ge hs3a); have HR4 : Hd (Row8 w4 (w.heap.size + 1) g4 (d.length + 1) cap4 (d ++ [46])) := HR4'; have HB4 : Hd (Below (w.heap.size + 1) (w.alloc (.cells #[.int .i64 3, .slice a len cap, .int .i64 n, .int .i64 s] 93)) w4) := hb4; have hx4 := HX.o w4 hb4; clear hown4 hgr4 hgg4 hb4 HR4' HR3a HB3a hs3a))
 refine (P _).mono ?_
 rintro e w4 ⟨rfl, rfl⟩
 go_wp2_with fail
 refine (D2 _).mono ?_
 rintro e w5 ⟨g5, cap5, rfl, hr5, hb5⟩
 have hs4 : (w.heap.size + 1) ≤ w4.heap.size := Nat.le_trans (by simp) HB4.o.size
 have HR5 := iH (HR4.o.below hb5)
 have HB5 := iH (HB4.o.trans (hb5.mono hs4))
 have HF5 := iH hr5.news
 have hg5 := hr5.2
 have hne5 : g4 ≠ g5 := by have := HR4.o.2; have := hr5.ge; omega
 have hx5 := HX.o w5 HB5.o
 clear hr5 hb5 HR4 HB4 HR3 HB3 HB2 HN2 D2 P
 go_wp2_with fail
 go_loopw [3, 6] (fun x i wr => ∃ (k gx nx cx : Nat), f.length ≤ k ∧ (k ≤ s ∨ k = f.length) ∧ i = .int .i64 k ∧ x = .slice (some ⟨gx, 0, none⟩) nx cx ∧ nx = d.length + 1 + (k - f.length) ∧ gx ≠ g5 ∧ g5 < wr.heap.size ∧ Hd (Row8 wr (w.heap.size + 1) gx nx cx (d ++ 46 :: List.replicate (k - f.length) 48)) ∧ Hd (Below (w.heap.size + 1) (w.alloc (.cells #[.int .i64 3, .slice a len cap, .int .i64 n, .int .i64 s] 93)) wr) ∧ Hd (∀ j u, (f.map (Value.int .u8))[j]? = some u → wr.cell? ((⟨g5, 0, none⟩ : Addr).add j) = some u))
  (fun _ i _ => s - (intOf i).toNat)
 case atStart => exact ⟨f.length, g4, d.length + 1, cap4, nR, .inr rfl, rfl, rfl, by omega, hne5, hg5, by simpa using HR5, HB5, HF5⟩
 obtain ⟨k, gx, nx, cx, hk, hks, rfl, rfl, hnx, hne, hg, HR, HB, HF⟩ := hrel
 have hbox := HX.o wr HB.o
 have HNX := iH hnx
 have hnb : nx ≤ 40 := by omega
 clear hnx
 clear HR5 HB5 HF5 hg5 hne5 hx5
 by_cases hlt : k < s
 · have HR1 : Hd (Row8 (wr.alloc (.cells #[.int .u8 48] 5)) (w.heap.size + 1) gx nx cx (d ++ 46 :: List.replicate (k - f.length) 48)) := HR.o.below (bl_a _)
   have HB1 : Hd (Below (w.heap.size + 1) (w.alloc (.cells #[.int .i64 3, .slice a len cap, .int .i64 n, .int .i64 s] 93)) (wr.alloc (.cells #[.int .u8 48] 5))) := HB.o.alloc (Nat.le_trans (by simp) HB.o.size) _
   have hs1 : (w.heap.size + 1) ≤ (wr.alloc (.cells #[.int .u8 48] 5)).heap.size := Nat.le_trans (by simp) HB1.o.size
   have HF1 : Hd (∀ j u, (f.map (Value.int .u8))[j]? = some u → (wr.alloc (.cells #[.int .u8 48] 5)).cell? ((⟨g5, 0, none⟩ : Addr).add j) = some u) := news_alloc _ hg HF.o
   have hg1 : g5 < (wr.alloc (.cells #[.int .u8 48] 5)).heap.size := by simp; omega
   go_wp2_with (refine wpList_append_lies _ rfl (.tmp 45) (.tmp 46) 42 rfl (w.heap.size + 1) 5 i0 (.int .u8 0) 1 1 Tryz.underlying42 hi0 hi2 hi1 hi3 rfl (by omega) (.slice (some ⟨gx, 0, none⟩) nx cx) nx ((d ++ 46 :: List.replicate (k - f.length) 48).map (Value.int .u8)) rfl HR1.o.1 ⟨wr.heap.size, 0, none⟩ 1 _ [.int .u8 48] rfl rfl (one_news wr 48) (by simp [Value.oneCell']) (by omega) (by unfold maxLen; omega) (by omega) hs1 _ rfl ?_; intro g6 cap6 w6 hown6 hgr6 hgg6 hlt6; have HR6 : Hd (Row8 w6 (w.heap.size + 1) g6 (nx + 1) cap6 ((d ++ 46 :: List.replicate (k - f.length) 48) ++ [48])) := Row8.grown (us := d ++ 46 :: List.replicate (k - f.length) 48) (bs := [48]) hown6 rfl hlt6; have hb6 := HB1.o.trans (grown_below (g := gx) hgr6 HR.o.ge hs1); have HB6 : Hd (Below (w.heap.size + 1) (w.alloc (.cells #[.int .i64 3, .slice a len cap, .int .i64 n, .int .i64 s] 93)) w6) := hb6; have HF6 : Hd (∀ j u, (f.map (Value.int .u8))[j]? = some u → w6.cell? ((⟨g5, 0, none⟩ : Addr).add j) = some u) := news_grown (g := gx) hgr6 (Ne.symm hne) hg1 HF1.o; have hg6 : g5 < w6.heap.size := Nat.lt_of_lt_of_le hg1 hgr6.size; have hne6 : g6 ≠ g5 := far hgg6 hne hg1; clear hown6 hgr6 hgg6 hb6 hlt6)
   go_roundw
   case rel =>
    refine ⟨k + 1, g6, nx + 1, cap6, by omega, by omega, by go_num, rfl, by have := HNX.o; omega, hne6, hg6, ?_, HB6, HF6⟩
    have h := HR6.o
    show Row8 _ _ _ _ _ _
    have e : k + 1 - f.length = (k - f.length) + 1 := by omega
    rw [e, List.replicate_succ']
    simpa using h
   case measure => simp [intOf]; omega
 have hs0' : (w.heap.size + 1) ≤ wr.heap.size := Nat.le_trans (by simp) HB.o.size
 go_wp2_with (refine wpList_append_lies _ rfl (.tmp 48) (.tmp 49) 42 rfl (w.heap.size + 1) 5 i0 (.int .u8 0) 1 1 Tryz.underlying42 hi0 hi2 hi1 hi3 rfl (by omega) (.slice (some ⟨gx, 0, none⟩) nx cx) nx ((d ++ 46 :: List.replicate (k - f.length) 48).map (Value.int .u8)) rfl HR.o.1 ⟨g5, 0, none⟩ f.length _ (f.map (Value.int .u8)) rfl (by simp) HF.o (oneCell_map f) (by omega) (by unfold maxLen; omega) (by omega) hs0' _ rfl ?_; intro g7 cap7 w7 hown7 hgr7 hgg7 hlt7; have HR7 : Hd (Row8 w7 (w.heap.size + 1) g7 (nx + f.length) cap7 ((d ++ 46 :: List.replicate (k - f.length) 48) ++ f)) := Row8.grown (us := d ++ 46 :: List.replicate (k - f.length) 48) (bs := f) hown7 rfl hlt7; have HB7 : Hd (Below (w.heap.size + 1) (w.alloc (.cells #[.int .i64 3, .slice a len cap, .int .i64 n, .int .i64 s] 93)) w7) := HB.o.trans (grown_below (g := gx) hgr7 HR.o.ge hs0'); clear hown7 hgr7 hgg7 hlt7)
 go_ret
 have e : k - f.length = s - f.length := by omega
 have h := HR7.o.mono (B' := w.heap.size) (Nat.le_succ _)
 rw [e] at h
 have el : (d ++ 46 :: (List.replicate (s - f.length) 48 ++ f) : List Int).length = nx + f.length := by have := HNX.o; simp; omega
 exact ⟨g7, cap7, by rw [el]; rfl, by rw [el]; simpa using h, HW.o _ HB7.o⟩
theorem app8 {ops : Array Oper} {rest : List Oper} {o : Oper} {a : Act} {Q : Exit → Act → World → Prop} {w : World} (hgd : o.guard = none) (s x : Operand)
 (ho : o.op = .call { callee := .builtin .append, args := #[s, x], argTypes := #[42, 42] })
 (B : Nat) (v : Value) (n : Nat) (us : List Int) (hs : a.eval s = v) (HO : Hd (w.ownsRow B 5 1 v n (us.map (Value.int .u8))))
 (ad : Addr) (m c : Nat) (bs : List Int) (hx : a.eval x = .slice (some ad) m c) (hl : bs.length = m) (HN : Hd (∀ j u, (bs.map (Value.int .u8))[j]? = some u → w.cell? (ad.add j) = some u))
 (hm : 0 < m) (N : Nat) (hN : n + m = N) (zs : List Int) (hz : us ++ bs = zs) (hle : N ≤ 1000000000) (hB : B ≤ w.heap.size)
 (h : ∀ g cap w', Hd (Row8 w' B g N cap zs) → Hd (w.grownBy w' v.ownBlock) → Hd (v.ownBlock = some g ∨ g = w.heap.size) → Hd (Below B w w') → wpList Tryz.prog ops Q rest (a.put o.dst (.slice (some ⟨g, 0, none⟩) N cap)) w') :
 wpList Tryz.prog ops Q (o :: rest) a w := by
 obtain ⟨i0, hi0, hzz⟩ := Option.map_eq_some_iff.1 Tryz.info5
 simp only [Prod.mk.injEq] at hzz
 obtain ⟨hi2, hi1, hi3⟩ := hzz
 subst hN hz
 refine wpList_append_lies _ hgd s x 42 ho B 5 i0 _ 1 1 Tryz.underlying42 hi0 hi2 hi1 hi3 rfl (by omega) v n _ hs HO.o ad m c _ hx (by simp [hl]) HN.o (oneCell_map bs) hm (by unfold maxLen; omega) (by omega) hB _ rfl ?_
 intro g cap w' hown hgr hat hlt
 refine h g cap w' (Row8.grown hown rfl hlt) hgr hat ?_
 rcases HO.o.2 with ⟨hv, _⟩ | ⟨g0, c0, cur, hv, hb, _⟩
 · subst hv
   exact below_nil hgr hB
 subst hv
 exact grown_below (g := g0) hgr hb hB
theorem Row8.own {w : World} {B g n cap : Nat} {bs : List Int} (h : Row8 w B g n cap bs) : Hd (w.ownsRow B 5 1 (.slice (some ⟨g, 0, none⟩) n cap) n (bs.map (Value.int .u8))) := h.1
theorem Row8.len {w : World} {B g n cap : Nat} {bs : List Int} (h : Row8 w B g n cap bs) : bs.length = n := by simpa using h.1.1
theorem away {v : Value} {g g' H : Nat} (h : v.ownBlock = some g ∨ g = H) (hv : v.ownBlock ≠ some g') (hl : g' < H) : g ≠ g' := by
 rcases h with h | h
 · intro e; subst e; exact hv h
 omega
theorem news_past {w w' : World} {v : Value} {g' : Nat} {vs : List Value} (h : w.grownBy w' v.ownBlock) (hne : v.ownBlock ≠ some g') (hl : g' < w.heap.size) (hc : ∀ j u, vs[j]? = some u → w.cell? ((⟨g', 0, none⟩ : Addr).add j) = some u) :
 ∀ j u, vs[j]? = some u → w'.cell? ((⟨g', 0, none⟩ : Addr).add j) = some u := by
 intro j u hj
 have hb : ((⟨g', 0, none⟩ : Addr).add j).block = g' := by
  by_cases h0 : j = 0 <;> simp [Addr.add, h0]
 rw [World.cell?_of_block (h.block _ (by rw [hb]; exact hl) (by rw [hb]; exact fun e => hne e.symm))]
 exact hc j u hj
theorem own_ne {g g' n c : Nat} (h : g ≠ g') : (Value.slice (some ⟨g, 0, none⟩) n c).ownBlock ≠ some g' := by simpa [Value.ownBlock] using h
theorem l1number_neg (n : Int) (s : Nat) (a : Option Addr) (len cap : Nat) (w : World) (hs : s ≤ 6) (hn : 0 < n) (hn' : n ≤ 9223372036854775807) :
 Calls Tryz.prog 135 #[.agg #[.int .i64 3, .slice a len cap, .int .i64 (-n), .int .i64 s]] w fun e w' => DigRes w (45 :: numL n s) e w' := by
 have hn0 : 0 ≤ n := by omega
 have P := fun w => l1pow_any s w hs
 have hp := p10_pos s
 have hp6 := p10_le hs
 have d0 : 0 ≤ n / p10 s := Int.ediv_nonneg hn0 (by omega)
 have d1 : n / p10 s ≤ n := Int.ediv_le_self _ hn0
 have m0 : 0 ≤ n % p10 s := Int.emod_nonneg _ (by omega)
 have m1 : n % p10 s < p10 s := Int.emod_lt_of_pos _ (by omega)
 have D1 := fun w => l1digits_int (n / p10 s) w d0 (by omega)
 have D2 := fun w => l1digits_int (n % p10 s) w m0 (by omega)
 have hL1 := digitsL_len 19 (n / p10 s).toNat (by omega)
 have hL2 := digitsL_len 6 (n % p10 s).toNat (by omega)
 have hq1 := digitsL_pos (n / p10 s).toNat
 have hq2 := digitsL_pos (n % p10 s).toNat
 unfold numL
 generalize digitsL (n / p10 s).toNat = d at *
 generalize digitsL (n % p10 s).toNat = f at *
 have HX : Hd (∀ wr, Below (w.heap.size + 1) (w.alloc (.cells #[.int .i64 3, .slice a len cap, .int .i64 (-n), .int .i64 s] 93)) wr → wr.cell? ⟨w.heap.size, 3, none⟩ = some (.int .i64 s)) := fun wr h => (h.cell (p := ⟨w.heap.size, 3, none⟩) (Nat.lt_succ_self _)).trans (by simp [go_sem])
 have HW := iH (fun wr (h : Below (w.heap.size + 1) _ wr) => (bl_a (w := w) (.cells #[.int .i64 3, .slice a len cap, .int .i64 (-n), .int .i64 s] 93)).trans (h.mono (Nat.le_succ _)))
 have HSZ : Hd (∀ wr, Below (w.heap.size + 1) (w.alloc (.cells #[.int .i64 3, .slice a len cap, .int .i64 (-n), .int .i64 s] 93)) wr → (w.heap.size + 1) ≤ wr.heap.size) := fun wr h => Nat.le_trans (by simp) h.size
 have HB0 : Hd (Below (w.heap.size + 1) (w.alloc (.cells #[.int .i64 3, .slice a len cap, .int .i64 (-n), .int .i64 s] 93)) ((w.alloc (.cells #[.int .i64 3, .slice a len cap, .int .i64 (-n), .int .i64 s] 93)).alloc (.cells #[.int .u8 45] 5))) := brf.alloc (by simp) _
 have hB0 := HSZ.o _ HB0.o
 have HO0 : Hd (((w.alloc (.cells #[.int .i64 3, .slice a len cap, .int .i64 (-n), .int .i64 s] 93)).alloc (.cells #[.int .u8 45] 5)).ownsRow (w.heap.size + 1) 5 1 (.slice none 0 0) 0 (([] : List Int).map (Value.int .u8))) := World.ownsRow_nil _ _ _ _
 have HN0 : Hd (∀ j u, (([45] : List Int).map (Value.int .u8))[j]? = some u → ((w.alloc (.cells #[.int .i64 3, .slice a len cap, .int .i64 (-n), .int .i64 s] 93)).alloc (.cells #[.int .u8 45] 5)).cell? ((⟨(w.heap.size + 1), 0, none⟩ : Addr).add j) = some u) := by
  have h := one_news (w.alloc (.cells #[.int .i64 3, .slice a len cap, .int .i64 (-n), .int .i64 s] 93)) 45
  rw [show ((w.alloc (.cells #[.int .i64 3, .slice a len cap, .int .i64 (-n), .int .i64 s] 93))).heap.size = (w.heap.size + 1) by simp] at h
  exact h
 go_in
 go_wp2_with (refine app8 rfl (.tmp 11) (.tmp 12) rfl (w.heap.size + 1) (.slice none 0 0) 0 [] rfl HO0 ⟨(w.heap.size + 1), 0, none⟩ 1 1 [45] rfl rfl HN0 (by omega) 1 rfl [45] rfl (by omega) hB0 ?_; intro gA cA wA HRA _ _ HBA'; have HBA : Hd (Below (w.heap.size + 1) (w.alloc (.cells #[.int .i64 3, .slice a len cap, .int .i64 (-n), .int .i64 s] 93)) wA) := HB0.o.trans HBA'.o; have hxA := HX.o wA HBA.o; clear HBA' HO0 HN0 HB0 hB0)
 refine (P _).mono ?_
 rintro e w1 ⟨rfl, rfl⟩
 go_wp2_with fail
 refine (D1 _).mono ?_
 rintro e w2 ⟨g2, cap2, rfl, hr2, hb2⟩
 have HN2 := iH hr2.news
 have HO2 := iH ((HRA.o.below hb2).1)
 have HB2 := iH (HBA.o.trans (hb2.mono (HSZ.o _ HBA.o)))
 have hB2 := HSZ.o _ HB2.o
 clear hr2 hb2 D1 HRA HBA hxA
 by_cases hs0 : s = 0
 · go_wp2_with (refine app8 rfl (.tmp 16) (.tmp 22) rfl (w.heap.size + 1) (.slice (some ⟨gA, 0, none⟩) 1 cA) 1 [45] rfl HO2 ⟨g2, 0, none⟩ d.length _ d rfl rfl HN2 (by omega) (1 + d.length) rfl (45 :: d) rfl (by omega) hB2 ?_; intro g3 cap3 w3 HR3 _ _ HB3'; have HB3 : Hd (Below (w.heap.size + 1) (w.alloc (.cells #[.int .i64 3, .slice a len cap, .int .i64 (-n), .int .i64 s] 93)) w3) := HB2.o.trans HB3'.o; have hx3 := HX.o w3 HB3.o; clear HB3' HO2 HN2 HB2 hB2)
   go_ret
   have el : (45 :: d : List Int).length = 1 + d.length := by simp; omega
   exact ⟨g3, cap3, by rw [el]; rfl, by rw [el]; exact HR3.o.mono (B' := w.heap.size) (Nat.le_succ _), HW.o _ HB3.o⟩
 go_wp2_with (first
  | (refine app8 rfl (.tmp 16) (.tmp 22) rfl (w.heap.size + 1) (.slice (some ⟨gA, 0, none⟩) 1 cA) 1 [45] rfl HO2 ⟨g2, 0, none⟩ d.length _ d rfl rfl HN2 (by omega) (1 + d.length) rfl (45 :: d) rfl (by omega) hB2 ?_; intro g3 cap3 w3 HR3 _ _ HB3'; have HB3 : Hd (Below (w.heap.size + 1) (w.alloc (.cells #[.int .i64 3, .slice a len cap, .int .i64 (-n), .int .i64 s] 93)) w3) := HB2.o.trans HB3'.o; have hx3 := HX.o w3 HB3.o; have HO3 := (HR3.o.below (bl_a (.cells #[.int .u8 46] 5))).own; have HB3a : Hd (Below (w.heap.size + 1) (w.alloc (.cells #[.int .i64 3, .slice a len cap, .int .i64 (-n), .int .i64 s] 93)) (w3.alloc (.cells #[.int .u8 46] 5))) := HB3.o.alloc (HSZ.o _ HB3.o) _; have hB3a := HSZ.o _ HB3a.o; have HN3 : Hd (∀ j u, (([46] : List Int).map (Value.int .u8))[j]? = some u → (w3.alloc (.cells #[.int .u8 46] 5)).cell? ((⟨w3.heap.size, 0, none⟩ : Addr).add j) = some u) := one_news w3 46; clear HB3' HO2 HN2 HB2 hB2)
  | (refine app8 rfl (.tmp 28) (.tmp 29) rfl (w.heap.size + 1) (.slice (some ⟨g3, 0, none⟩) (1 + d.length) cap3) (1 + d.length) (45 :: d) rfl HO3 ⟨w3.heap.size, 0, none⟩ 1 1 [46] rfl rfl HN3 (by omega) (1 + d.length + 1) rfl (45 :: d ++ [46]) rfl (by omega) hB3a ?_; intro g4 cap4 w4 HR4 _ _ HB4'; have HB4 : Hd (Below (w.heap.size + 1) (w.alloc (.cells #[.int .i64 3, .slice a len cap, .int .i64 (-n), .int .i64 s] 93)) w4) := HB3a.o.trans HB4'.o; have hx4 := HX.o w4 HB4.o; clear HB4' HO3 HB3a hB3a HN3 HB3 HR3 hx3))
 refine (P _).mono ?_
 rintro e w4' ⟨rfl, rfl⟩
 go_wp2_with fail
 refine (D2 _).mono ?_
 rintro e w5 ⟨g5, cap5, rfl, hr5, hb5⟩
 have HR5 := iH (HR4.o.below hb5)
 have HB5 := iH (HB4.o.trans (hb5.mono (HSZ.o _ HB4.o)))
 have HF5 := iH hr5.news
 have hg5 := hr5.2
 have hne5 : g4 ≠ g5 := by have := HR4.o.2; have := hr5.ge; omega
 have hx5 := HX.o w5 HB5.o
 clear hr5 hb5 HR4 HB4 D2 P hx4
 go_wp2_with fail
 go_loopw [3, 6] (fun x i wr => ∃ (k gx nx cx : Nat), f.length ≤ k ∧ (k ≤ s ∨ k = f.length) ∧ i = .int .i64 k ∧ x = .slice (some ⟨gx, 0, none⟩) nx cx ∧ nx = 1 + d.length + 1 + (k - f.length) ∧ gx ≠ g5 ∧ g5 < wr.heap.size ∧ Hd (Row8 wr (w.heap.size + 1) gx nx cx (45 :: (d ++ 46 :: List.replicate (k - f.length) 48))) ∧ Hd (Below (w.heap.size + 1) (w.alloc (.cells #[.int .i64 3, .slice a len cap, .int .i64 (-n), .int .i64 s] 93)) wr) ∧ Hd (∀ j u, (f.map (Value.int .u8))[j]? = some u → wr.cell? ((⟨g5, 0, none⟩ : Addr).add j) = some u))
  (fun _ i _ => s - (intOf i).toNat)
 case atStart => exact ⟨f.length, g4, 1 + d.length + 1, cap4, nR, .inr rfl, rfl, rfl, by omega, hne5, hg5, by simpa using HR5, HB5, HF5⟩
 obtain ⟨k, gx, nx, cx, hk, hks, rfl, rfl, hnx, hne, hg, HR, HB, HF⟩ := hrel
 have hbox := HX.o wr HB.o
 have HNX := iH hnx
 have hnb : nx ≤ 40 := by omega
 have hov := own_ne (n := nx) (c := cx) hne
 clear hnx HR5 HB5 HF5 hg5 hne5 hx5
 by_cases hlt : k < s
 · have HO1 := (HR.o.below (bl_a (.cells #[.int .u8 48] 5))).own
   have HB1 : Hd (Below (w.heap.size + 1) (w.alloc (.cells #[.int .i64 3, .slice a len cap, .int .i64 (-n), .int .i64 s] 93)) (wr.alloc (.cells #[.int .u8 48] 5))) := HB.o.alloc (HSZ.o _ HB.o) _
   have hB1 := HSZ.o _ HB1.o
   have HN1 : Hd (∀ j u, (([48] : List Int).map (Value.int .u8))[j]? = some u → (wr.alloc (.cells #[.int .u8 48] 5)).cell? ((⟨wr.heap.size, 0, none⟩ : Addr).add j) = some u) := one_news wr 48
   have HF1 : Hd (∀ j u, (f.map (Value.int .u8))[j]? = some u → (wr.alloc (.cells #[.int .u8 48] 5)).cell? ((⟨g5, 0, none⟩ : Addr).add j) = some u) := news_alloc _ hg HF.o
   have hg1 : g5 < (wr.alloc (.cells #[.int .u8 48] 5)).heap.size := by simp; omega
   go_wp2_with (refine app8 rfl (.tmp 45) (.tmp 46) rfl (w.heap.size + 1) (.slice (some ⟨gx, 0, none⟩) nx cx) nx (45 :: (d ++ 46 :: List.replicate (k - f.length) 48)) rfl HO1 ⟨wr.heap.size, 0, none⟩ 1 1 [48] rfl rfl HN1 (by omega) (nx + 1) rfl ((45 :: (d ++ 46 :: List.replicate (k - f.length) 48)) ++ [48]) rfl (by omega) hB1 ?_; intro g6 cap6 w6 HR6 hgr6 hat6 HB6'; have HB6 : Hd (Below (w.heap.size + 1) (w.alloc (.cells #[.int .i64 3, .slice a len cap, .int .i64 (-n), .int .i64 s] 93)) w6) := HB1.o.trans HB6'.o; have HF6 : Hd (∀ j u, (f.map (Value.int .u8))[j]? = some u → w6.cell? ((⟨g5, 0, none⟩ : Addr).add j) = some u) := news_past hgr6.o hov hg1 HF1.o; have hg6 : g5 < w6.heap.size := Nat.lt_of_lt_of_le hg1 hgr6.o.size; have hne6 : g6 ≠ g5 := away hat6.o hov hg1; clear hgr6 hat6 HB6')
   go_roundw
   case rel =>
    refine ⟨k + 1, g6, nx + 1, cap6, by omega, by omega, by go_num, rfl, by have := HNX.o; omega, hne6, hg6, ?_, HB6, HF6⟩
    have h := HR6.o
    show Row8 _ _ _ _ _ _
    have e : k + 1 - f.length = (k - f.length) + 1 := by omega
    rw [e, List.replicate_succ']
    simpa using h
   case measure => simp [intOf]; omega
 have HO1 := HR.o.own
 have hB1 := HSZ.o _ HB.o
 go_wp2_with (refine app8 rfl (.tmp 48) (.tmp 49) rfl (w.heap.size + 1) (.slice (some ⟨gx, 0, none⟩) nx cx) nx (45 :: (d ++ 46 :: List.replicate (k - f.length) 48)) rfl HO1 ⟨g5, 0, none⟩ f.length _ f rfl rfl HF (by omega) (nx + f.length) rfl ((45 :: (d ++ 46 :: List.replicate (k - f.length) 48)) ++ f) rfl (by omega) hB1 ?_; intro g7 cap7 w7 HR7 _ _ HB7'; have HB7 : Hd (Below (w.heap.size + 1) (w.alloc (.cells #[.int .i64 3, .slice a len cap, .int .i64 (-n), .int .i64 s] 93)) w7) := HB.o.trans HB7'.o; clear HB7')
 go_ret
 have e : k - f.length = s - f.length := by omega
 have h := HR7.o.mono (B' := w.heap.size) (Nat.le_succ _)
 rw [e] at h
 have el : (45 :: (d ++ 46 :: (List.replicate (s - f.length) 48 ++ f)) : List Int).length = nx + f.length := by have := HNX.o; simp; omega
 exact ⟨g7, cap7, by rw [el]; rfl, by rw [el]; simpa using h, HW.o _ HB7.o⟩
end Go.Proofs.YthljoojcpbignaaGreatDoor
