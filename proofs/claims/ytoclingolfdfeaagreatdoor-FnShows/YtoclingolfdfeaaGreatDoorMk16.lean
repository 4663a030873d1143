/- PROVED: for every row of bytes: a drawn term's text is read as that term, and what may not be has none (FnShowsCardSaid; no condition; the tables and the errors of the library lie as the text of the program lays them, which the card ties). Texts put together: ReF ReG -/
import Derived.Test.YtoclingolfdfeaaGreatDoorMk15
import Derived.Test.YtoclingolfdfeaaGreatDoorMk01
import Derived.Lib.QuietBelow
import Derived.Test.YtoclingolfdfeaaGreatDoorMk07
import Derived.Test.YtoclingolfdfeaaGreatDoorCards
import Derived.Test.YtoclingolfdfeaaGreatDoorTie
import Derived.LaidMore
import Derived.Stop.Joined
import Derived.Lib.LaidTab
import Derived.Stop.LaidErr
import Derived.SevenTiedAt
import Derived.LaidLaws
/- ReF -/
namespace Go.Proofs.YtoclingolfdfeaaGreatDoor
open Go.RowKit Go.Deep
set_option maxRecDepth 100000

theorem bl_regrownS {w : World} (d : Nat) (os : Array Obj) : Below w.heap.size w (Go.Sort.grow (redrawn w d) os) := below_regrown w d os
set_option maxHeartbeats 1000000 in
theorem textS_any (s : ByteArray) (w : World) (hs : s.size ≤ 1048576) : Calls Tryz.prog 11 #[.string s] w fun e w' => ∃ cap, e = .returned (.slice (some ⟨w.heap.size, 0, none⟩) s.size cap) ∧ Tx w' w.heap.size (some ⟨w.heap.size, 0, none⟩) s.size cap (numsOf s) ∧ Below w.heap.size w w' := by
  have hcv := fun (w : World) (s : ByteArray) => Lib.run_convert_string_bytes (P := Tryz.prog) w 9 22 5 s Tryz.underlying9 Tryz.underlying22 Tryz.underlying5
  go_enter Tryz.func11, Tryz.ntmps11
  go_wp2
  go_ret
  exact ⟨_, rfl, Tx.conv w s _ hs, bytesWorld_below _ _ _⟩
theorem sameBytes_likeS (a a' : Option Addr) (len cap len' cap' : Nat) (bs : List Int) (w : World) (h : Bs w a len bs) (h' : Bs w a' len' bs) :
    Calls Tryz.prog 18 #[.slice a len cap, .slice a' len' cap'] w fun e w' => e = .returned (.bool true) ∧ w' = w := by
  have e1 := h.str (cap := cap)
  have e2 := h'.str (cap := cap')
  clear h h'
  go_enter Tryz.func18, Tryz.ntmps18
  go_wp2
  go_ret
  exact ⟨by simp, rfl⟩
theorem sameTerm_likeS (t u : Tm) (bs : List Int) (w : World) (hk : t.k = u.k) (hn : t.n = u.n) (hs : t.s = u.s) (h : Bs w t.a t.len bs) (h' : Bs w u.a u.len bs) :
    Calls Tryz.prog 12 #[.agg #[.int .i64 t.k, .slice t.a t.len t.cap, .int .i64 t.n, .int .i64 t.s], .agg #[.int .i64 u.k, .slice u.a u.len u.cap, .int .i64 u.n, .int .i64 u.s]] w fun e w' => e = .returned (.bool true) ∧ Below w.heap.size w w' := by
  have S := fun w h h' => sameBytes_likeS t.a u.a t.len t.cap u.len u.cap bs w h h'
  have k1 : (t.k == u.k) = true := by simp [hk]
  have n1 : (t.n == u.n) = true := by simp [hn]
  have s1 : (t.s == u.s) = true := by simp [hs]
  clear hk hn hs
  go_enter Tryz.func12, Tryz.ntmps12
  go_wp2_with fail
  refine (S _ (h.below (bl_alloc (bl_a _) _)) (h'.below (bl_alloc (bl_a _) _))).mono ?_
  rintro e w1 ⟨rfl, rfl⟩
  clear S
  go_wp2
  go_ret
  exact ⟨by simp [*], bl_alloc (bl_a _) _⟩
theorem src_of {w : World} {a : Addr} {n c : Nat} {bs : List Int} (h : Bs w (some a) n bs) : Src Tryz.prog 1 22 (.slice (some a) n c) n (bs.map (Value.int .u8)) w := by
  refine Src.ofSlice w Tryz.underlying22 a n c _ (by rw [List.length_map, h.1, Nat.mul_one]) (fun j u hu => ?_) (oneCell_map bs)
  have hj : j < n := by have := (List.getElem?_eq_some_iff.1 hu).1; simpa [h.1] using this
  rcases h.2.2.2 with h0 | ⟨b, off, e, _, hc⟩
  · omega
  · cases e
    have e2 : (⟨b, off, none⟩ : Addr).add j = ⟨b, off + j, none⟩ := Addr.add_lit _ _ _
    rw [e2, hc j hj]
    rw [List.getElem?_map] at hu
    have hjl : j < bs.length := by rw [h.1]; exact hj
    rw [List.getElem?_eq_getElem hjl] at hu ⊢
    simpa using hu
theorem src_str {w : World} (s : ByteArray) : Src Tryz.prog 1 9 (.string s) s.size ((numsOf s).map (Value.int .u8)) w := by
  have := Src.ofString (P := Tryz.prog) w Tryz.underlying9 s
  have e : byteCells s = (numsOf s).map (Value.int .u8) := by simp [byteCells, numsOf]
  rwa [e] at this
set_option maxHeartbeats 4000000 in
theorem walkShows (a : Option Addr) (len cap : Nat) (w : World) (hlen : len ≤ 9223372036854775807) (hC : Code w a len) (hT : Tab w) (hE : Errs w) :
    Calls Tryz.prog 3 #[.slice a len cap] w fun e w' => e = .returned (.bool true) ∧ Below w.heap.size w w' := by
  have HTE : Hid (∀ W, Below w.heap.size w W → Tab W ∧ Errs W) := fun W hb => ⟨hT.below hb, hE.below hb⟩
  have HC : Hid (Code w a len) := hC
  clear hC hT hE
  go_enter Tryz.func3, Tryz.ntmps3
  go_wp2_with fail
  refine (DrawShow_any a len cap w hlen HC.out).mono ?_
  rintro e w1 ⟨⟨k, ta, tl, tc, bs, n, s⟩, rfl, ⟨⟨f1, f2⟩, ⟨f3, f4⟩, hB1⟩, hb1⟩
  simp only at f1 f2 f3 f4 hB1 ⊢
  have HA2 : Hid (At4 (w1.alloc (.cells #[.int .i64 k, .slice ta tl tc, .int .i64 n, .int .i64 s] 24)) w1.heap.size (.int .i64 k) (.slice ta tl tc) (.int .i64 n) (.int .i64 s)) := At4.new w1 _ _ _ _ _
  have HB2 : Hid (Below w.heap.size w (w1.alloc (.cells #[.int .i64 k, .slice ta tl tc, .int .i64 n, .int .i64 s] 24))) := bl_trans hb1 (bl_a _)
  have HS2 : Hid (Bs (w1.alloc (.cells #[.int .i64 k, .slice ta tl tc, .int .i64 n, .int .i64 s] 24)) ta tl bs) := hB1.below (bl_a _)
  clear hb1 hB1
  go_wp2_with fail
  generalize w1.alloc (.cells #[.int .i64 k, .slice ta tl tc, .int .i64 n, .int .i64 s] 24) = w2 at *
  generalize w1.heap.size = z at *
  refine (implShow_any k n s ta tl tc bs w2 HS2.out f1 f2 f3 f4 (HTE.out _ HB2.out).1).mono ?_
  rintro e w3 ⟨sa, scap, rfl, hN3, hb3⟩
  have HA3 : Hid (At4 w3 z (.int .i64 k) (.slice ta tl tc) (.int .i64 n) (.int .i64 s)) := HA2.out.below hb3
  have HB3 : Hid (Below w.heap.size w w3) := bl_trans HB2.out hb3
  have HS3 : Hid (Bs w3 ta tl bs) := HS2.out.below hb3
  have HN3 : Hid (Nw w3 w2.heap.size sa (shownL k n s bs).length (shownL k n s bs)) := hN3
  clear hb3 hN3 HA2 HB2 HS2
  obtain ⟨x0, x1, x2, x3, x4⟩ := HA3.out
  go_wp2_with fail
  refine (specTermOk_any k n s ta tl tc bs w3 HS3.out f1 f2).mono ?_
  rintro e w4 ⟨rfl, o4, rfl⟩
  have HA4 : Hid (At4 (w3.alloc o4) z (.int .i64 k) (.slice ta tl tc) (.int .i64 n) (.int .i64 s)) := HA3.out.below (bl_a _)
  have HB4 : Hid (Below w.heap.size w (w3.alloc o4)) := bl_trans HB3.out (bl_a _)
  have HS4 : Hid (Bs (w3.alloc o4) ta tl bs) := HS3.out.below (bl_a _)
  have HN4 : Hid (Nw (w3.alloc o4) w2.heap.size sa (shownL k n s bs).length (shownL k n s bs)) := HN3.out.below (bl_a _)
  clear x0 x1 x2 x3 x4 HA3 HB3 HS3 HN3
  generalize w3.alloc o4 = w4 at *
  obtain ⟨x0, x1, x2, x3, x4⟩ := HA4.out
  cases hok : termOk k bs n s with
  | false =>
    have hl0 : (shownL k n s bs).length = 0 := by simp [shownL, hok]
    rw [hl0]
    go_wp2_with fail
    refine (implTermOk_any k n s ta tl tc bs w4 HS4.out f1 f2 f3 f4).mono ?_
    rintro e w5 ⟨rfl, hb5⟩
    rw [hok]
    have HB5 : Hid (Below w.heap.size w w5) := bl_trans HB4.out hb5
    clear hb5
    go_wp2_with fail
    go_ret
    exact ⟨rfl, HB5.out⟩
  | true =>
    have HOK : Hid (termOk k bs n s = true) := hok
    have hsh : shownL k n s bs = showL k n s bs := by simp [shownL, hok]
    have hsl := showL_len hok
    rw [hsh] at HN4 ⊢
    clear hok hsh
    obtain ⟨L, hL⟩ : ∃ L, showL k n s bs = L := ⟨_, rfl⟩
    rw [hL] at HN4 hsl ⊢
    have HL : Hid (showL k n s bs = L) := hL
    clear hL
    obtain ⟨gs, hgs⟩ : ∃ g, sa = some ⟨g, 0, none⟩ := by
      rcases HN4.out with ⟨_, h0, _⟩ | ⟨g, h, _⟩
      · omega
      · exact ⟨g, h⟩
    subst hgs
    go_wp2_with fail
    refine (textS_any _ w4 (by decide)).mono ?_
    rintro e w5 ⟨cap5, rfl, hT5, hb5⟩
    have HT5 : Hid (Tx w5 w4.heap.size (some ⟨w4.heap.size, 0, none⟩) 8 cap5 [60, 97, 62, 32, 60, 112, 62, 32]) := hT5
    have HS5 : Hid (Src Tryz.prog 1 22 (.slice (some ⟨gs, 0, none⟩) L.length scap) L.length (L.map (Value.int .u8)) w5) := src_of (HN4.out.bs.below hb5)
    have HLB : Hid (Byt L) := by
      show Byt L
      rw [← HL.out]
      have := shownL_byt (k := k) (n := n) (s := s) (bs := bs) HS4.out.byt
      rwa [show shownL k n s bs = showL k n s bs by simp [shownL, HOK.out]] at this
    have HY5 : Hid (Byt ([60, 97, 62, 32, 60, 112, 62, 32] ++ L)) := fun x hx => by
      rcases List.mem_append.1 hx with hx | hx
      · simp at hx
        omega
      · exact HLB.out x hx
    have HY6 : Hid (Byt ([60, 97, 62, 32, 60, 112, 62, 32] ++ L ++ numsOf ⟨#[32, 46]⟩)) := fun x hx => by
      rcases List.mem_append.1 hx with hx | hx
      · exact HY5.out x hx
      · have e : numsOf ⟨#[32, 46]⟩ = [32, 46] := rfl
        rw [e] at hx
        simp at hx
        omega
    have hB5 : w4.heap.size ≤ w5.heap.size := hb5.size
    have HA5 : Hid (At4 w5 z (.int .i64 k) (.slice ta tl tc) (.int .i64 n) (.int .i64 s)) := HA4.out.below hb5
    have HB5 : Hid (Below w.heap.size w w5) := bl_trans HB4.out hb5
    have HS5b : Hid (Bs w5 ta tl bs) := HS4.out.below hb5
    have HD5 : Hid (Below w4.heap.size w4 w5) := hb5
    clear hT5 hb5 x0 x1 x2 x3 x4 HB5 HA5 HS5b
    rw [show (⟨#[60, 97, 62, 32, 60, 112, 62, 32]⟩ : ByteArray).size = 8 from rfl]
    go_wp2_with (first
      | (refine app8t rfl (.tmp 24) (.tmp 25) 22 rfl w4.heap.size w4.heap.size 8 cap5 _ rfl HT5 _ L.length L rfl HS5 HY5 (8 + L.length) rfl _ rfl (by omega) hB5 ?_; intro g6 cap6 w6 HT6 HD6; have hB6 : w4.heap.size ≤ w6.heap.size := Nat.le_trans hB5 HD6.out.size)
      | (refine app8t rfl (.tmp 26) _ 9 rfl w4.heap.size g6 (8 + L.length) cap6 _ rfl HT6 _ 2 (numsOf ⟨#[32, 46]⟩) rfl (src_str _) HY6 (8 + L.length + 2) rfl _ rfl (by omega) hB6 ?_; intro g7 cap7 w7 HT7 HD7))
    have HD8 : Hid (Below w4.heap.size w4 w7) := (HD5.out.trans HD6.out).trans HD7.out
    have HB7 : Hid (Below w.heap.size w w7) := bl_trans HB4.out HD8.out
    have HA7 : Hid (At4 w7 z (.int .i64 k) (.slice ta tl tc) (.int .i64 n) (.int .i64 s)) := HA4.out.below HD8.out
    have HS7 : Hid (Bs w7 ta tl bs) := HS4.out.below HD8.out
    have hbs7 := HT7.out.1
    have e7 : ([60, 97, 62, 32, 60, 112, 62, 32] ++ L ++ numsOf ⟨#[32, 46]⟩ : List Int) = [60, 97, 62, 32, 60, 112, 62, 32] ++ (L ++ [32, 46]) := by
      rw [List.append_assoc]
      rfl
    rw [e7] at hbs7
    refine (implGraphRead_any _ _ _ _ w7 hbs7 (HTE.out _ HB7.out).1 (HTE.out _ HB7.out).2).mono ?_
    rintro e w8 hR
    have hRd := shows_read (t := ⟨k, bs, n, s⟩) HOK.out (8 + L.length + 2)
    rw [show (⟨k, bs, n, s⟩ : TD).sh = L from HL.out] at hRd
    obtain ⟨hb8, a8, cap8, r, hW, hr, rfl⟩ := hR.read (by omega) hRd (fun x hx => by
      rw [List.mem_singleton.1 hx]
      exact ⟨⟨show tdA.ok = true by decide, byt_of_ok (k := 0) (n := 0) (s := 0) (show termOk 0 [97] 0 0 = true by decide)⟩, ⟨show tdP.ok = true by decide, byt_of_ok (k := 0) (n := 0) (s := 0) (show termOk 0 [112] 0 0 = true by decide)⟩, HOK.out, byt_of_ok HOK.out⟩) (shows_once _) (by simp)
    obtain ⟨y, rfl, hy⟩ : ∃ y, r = [y] ∧ y.td3 = (tdA, tdP, ⟨k, bs, n, s⟩) := by
      cases r with
      | nil => simp at hr
      | cons y r =>
        simp only [List.map_cons, List.cons.injEq, List.map_eq_nil_iff] at hr
        exact ⟨y, by rw [hr.2], hr.1⟩
    have hv : (⟨y.v.k, y.bv, y.v.n, y.v.s⟩ : TD) = ⟨k, bs, n, s⟩ := congrArg (fun x : T3 => x.2.2) hy
    simp only [TD.mk.injEq] at hv
    obtain ⟨v1, v2, v3, v4⟩ := hv
    obtain ⟨g8, hg8⟩ : ∃ g, a8 = some ⟨g, 0, none⟩ := by
      obtain ⟨C, _, ho, _⟩ := hW.own
      obtain ⟨g, c, e⟩ := ho.some (by simp)
      cases e
      exact ⟨g, rfl⟩
    subst hg8
    have hO8 : OwnG w8 w7.heap.size (.slice (some ⟨g8, 0, none⟩) 1 cap8) [y] := by
      obtain ⟨C, hC, ho, _⟩ := hW.own
      exact ho.base hC
    have hyl : Bs w8 y.v.a y.v.len y.bv := (hW.txt y (by simp)).2.2.bs
    have HA9 : Hid (At4 (w8.alloc (.cells #[.slice (some ⟨g8, 0, none⟩) 1 cap8] 30)) z (.int .i64 k) (.slice ta tl tc) (.int .i64 n) (.int .i64 s)) := (HA7.out.below hb8).below (bl_a _)
    have HB9 : Hid (Below w.heap.size w (w8.alloc (.cells #[.slice (some ⟨g8, 0, none⟩) 1 cap8] 30))) := bl_trans (bl_trans HB7.out hb8) (bl_a _)
    have HS9 : Hid (Bs (w8.alloc (.cells #[.slice (some ⟨g8, 0, none⟩) 1 cap8] 30)) ta tl bs) := (HS7.out.below hb8).below (bl_a _)
    have HY9 : Hid (Bs (w8.alloc (.cells #[.slice (some ⟨g8, 0, none⟩) 1 cap8] 30)) y.v.a y.v.len bs) := v2 ▸ hyl.below (bl_a _)
    have hO9 := hO8.below (bl_a (.cells #[.slice (some ⟨g8, 0, none⟩) 1 cap8] 30))
    have hG9 : (w8.alloc (.cells #[.slice (some ⟨g8, 0, none⟩) 1 cap8] 30)).cell? ⟨w8.heap.size, 0, none⟩ = some (.slice (some ⟨g8, 0, none⟩) 1 cap8) := by simp [go_sem]
    rw [show ([y] : List G1).length = 1 from rfl]
    clear hW hr hR hRd hy hyl hO8 hb8 HA7 HB7 HS7 HT7 HD7 HD6 HT6 HD8 e7 hbs7
    go_wp2_with fail
    generalize w8.heap.size = z8 at *
    generalize w8.alloc (.cells #[.slice (some ⟨g8, 0, none⟩) 1 cap8] 30) = w9 at *
    obtain ⟨x0, x1, x2, x3, x4⟩ := HA9.out
    have hrow := ownG_at hO9 0 y rfl
    obtain ⟨_, _, _, _, _, _, _, _, r8, r9, r10, r11⟩ := hrow
    rw [Nat.zero_mul, Nat.zero_add] at r8 r9 r10 r11
    rw [v1] at r8
    rw [v3] at r10
    rw [v4] at r11
    have y1 := fun d os => cell_regrown x1 d os
    have y2 := fun d os => cell_regrown x2 d os
    have y3 := fun d os => cell_regrown x3 d os
    have y4 := fun d os => cell_regrown x4 d os
    have y5 := fun d os => cell_regrown hG9 d os
    have y6 := fun d os => cell_regrown r8 d os
    have y7 := fun d os => cell_regrown r9 d os
    have y8 := fun d os => cell_regrown r10 d os
    have y9 := fun d os => cell_regrown r11 d os
    have C1 := fun d os => Calls.regrown_of (implTermOk_any k n s ta tl tc bs (Go.Sort.grow (redrawn w9 d) os) (HS9.out.below (bl_regrownS (w := w9) d os)) f1 f2 f3 f4)
    rw [HOK.out] at C1
    have C2 := fun d os => Calls.regrown_of (sameTerm_likeS ⟨k, y.v.a, y.v.len, y.v.cap, n, s⟩ ⟨k, ta, tl, tc, n, s⟩ bs (Go.Sort.grow (redrawn w9 d) os) rfl rfl rfl (HY9.out.below (bl_regrownS (w := w9) d os)) (HS9.out.below (bl_regrownS (w := w9) d os)))
    clear x0 x1 x2 x3 x4 hG9 r8 r9 r10 r11 hO9 v1 v2 v3 v4
    refine wp_region_quiet_below (by kernel_rfl) (by kernel_rfl) ?_
    quiet_step (fail)
    quiet_step (exact C1 _ _)
    quiet_step (fail)
    quiet_step (fail)
    quiet_step (fail)
    quiet_step (fail)
    quiet_step (fail)
    quiet_step (fail)
    quiet_step (fail)
    quiet_step (fail)
    quiet_step (fail)
    quiet_step (fail)
    quiet_step (fail)
    quiet_step (fail)
    quiet_step (fail)
    quiet_step (fail)
    quiet_step (fail)
    quiet_step (fail)
    quiet_step (fail)
    quiet_step (exact C2 _ _)
    quiet_step (fail)
    quiet_step (fail)
    refine wpQuiet_nil ?_
    intro _ hw'
    obtain ⟨⟨dq, osq⟩, hw''⟩ := hw'
    subst hw''
    have HBF : Hid (Below w.heap.size w (Go.Sort.grow (redrawn w9 dq) osq)) := bl_trans HB9.out (bl_regrownS (w := w9) dq osq)
    clear y1 y2 y3 y4 y5 y6 y7 y8 y9 C1 C2
    dsimp only
    generalize Go.Sort.grow (redrawn w9 dq) osq = wz at *
    go_wp2_with fail
    go_ret
    exact ⟨rfl, HBF.out⟩
end Go.Proofs.YtoclingolfdfeaaGreatDoor

/- ReG -/
namespace Go.Proofs.YtoclingolfdfeaaGreatDoor
open Go.ChangeShapes Go.WideShapes Go.ChangeAt Go.RowKit Go.Joins
set_option maxRecDepth 100000

theorem door_metShows (os : Os) (args : Array Value) : laidMetH Tryz.prog Rows.fnShowsRow.laid ((World.doorLaid Tryz.prog 62 os).forCall (fun _ _ => 0) ⟨#[], args, []⟩).memory :=
  laidMetH_of_parts3 (fuel := 8) (laidMet_of_run' 8 (by kernel_rfl) (by kernel_rfl)) (by kernel_rfl) (by kernel_rfl)

theorem Tryz.cells141 : Tryz.prog.cellsOf 141 = 1 := by kernel_rfl
theorem tab_of_laid {W : World} (h : laidMetH Tryz.prog Rows.fnShowsRow.laid W) : Tab W := by
  rw [MakeChecks.laidMetH_plain _ _ _ (by kernel_rfl)] at h
  exact Lib.tabIs_of_head (k := .u64) (zs := Lib.pow10Tab) (rest := [("strconv.ErrRange", Rows.laid_strconv_ErrRange), ("strconv.ErrSyntax", Rows.laid_strconv_ErrSyntax)]) (g := 0) (t := 174) (n := 20) (by kernel_rfl) (by kernel_rfl) (by kernel_rfl) Tryz.underlying141 Tryz.cells141 (by kernel_rfl) (laidMet.tail (laidMet.tail h))
theorem starErr : "*" ++ "errors.errorString" = "*errors.errorString" := by decide
theorem rowErr (u : TypeId) (h : Tryz.prog.typeName? 3 u = some "*errors.errorString") : u = 203 :=
  typeName_ptr_named (nm := "errors.errorString") (by rw [starErr]; kernel_rfl) (by kernel_rfl) (by decide) u (by rw [starErr]; exact h)
theorem errs_of_laid {W : World} (h : laidMetH Tryz.prog Rows.fnShowsRow.laid W) : Errs W := by
  rw [MakeChecks.laidMetH_plain _ _ _ (by kernel_rfl)] at h
  have hR := laidMet.tail (laidMet.tail (laidMet.tail h))
  have hS := laidMet.tail hR
  obtain ⟨a1, s1, hv1, _⟩ := laid_sentinel (g := 5) (ti := 123) (tp := 203) (te := 205) (ts := 9) (f := { name := "s", type := 9, offset := 0, embedded := false, tag := "", pkgPath := "errors", byteOffset := 0 }) (ms := #[("Error", 54)]) hR (by kernel_rfl) (by kernel_rfl) (by kernel_rfl) rowErr (by kernel_rfl) (by kernel_rfl) rfl rfl Tryz.underlying9 (by kernel_rfl) (by kernel_rfl)
  obtain ⟨a2, s2, hv2, _⟩ := laid_sentinel (g := 4) (ti := 123) (tp := 203) (te := 205) (ts := 9) (f := { name := "s", type := 9, offset := 0, embedded := false, tag := "", pkgPath := "errors", byteOffset := 0 }) (ms := #[("Error", 54)]) hS (by kernel_rfl) (by kernel_rfl) (by kernel_rfl) rowErr (by kernel_rfl) (by kernel_rfl) rfl rfl Tryz.underlying9 (by kernel_rfl) (by kernel_rfl)
  have c1 : W.cell? ⟨5, 0, none⟩ = some (.iface 203 (.pointer (some a1))) := by simpa using World.var?_cell (P := Tryz.prog) (by kernel_rfl) hv1 0
  have c2 : W.cell? ⟨4, 0, none⟩ = some (.iface 203 (.pointer (some a2))) := by simpa using World.var?_cell (P := Tryz.prog) (by kernel_rfl) hv2 0
  exact ⟨cell_lt c2, cell_lt c1, ⟨_, _, c2⟩, _, _, c1⟩

theorem liftedShows (os : Os) (started : os.Started) (H : Type) (enc : TypeId × Value → H) :
    ReturnsInHanded {} Tryz.checked os 3 .any (fun w args => (Rows.fnShowsSpec.pre enc Tryz.prog Tryz.f3 [] false w args ∧ laidMetH Tryz.prog Rows.fnShowsRow.laid w) ∧ sizedMet enc Tryz.prog Tryz.f3 (OpenSpec.ofChange Rows.fnShowsSpec) false w args)
      (Rows.fnShowsSpec.post enc Tryz.prog Tryz.f3 false true false false) := by
  refine returnsInHanded_of_change_and (C := Tryz.checked) (X := fun w _ => laidMetH Tryz.prog Rows.fnShowsRow.laid w) (fun _ _ _ hh h => h.of_heap hh) own started (by kernel_rfl) Tryz.func3
    (ChangeSpec.witness_shaped (enc := enc) (C := Tryz.checked) (os := os) (X := fun w _ => laidMetH Tryz.prog Rows.fnShowsRow.laid w) false (World.doorLaid Tryz.prog 62 os) #[.slice none 0 0] 8 rfl (World.shaped_of_RefB (by kernel_rfl) (by kernel_rfl)) (by kernel_rfl) (by kernel_rfl) (by kernel_rfl) (door_metShows os _)) ?_
  intro W base args ds gs before hval0 hW _ _ hL _
  have hval : ∀ (j : Nat) t v, Tryz.f3.params[j]? = some t → args[j]? = some v → Value.okWide Tryz.prog W .any base t v := hval0
  have hW' := hW
  obtain ⟨p, q, hA0, hV, rfl, hfz, hnd⟩ := hW
  have hA : DataW.TrodAll enc Tryz.prog W 0 (fun _ => true) true Tryz.f3.params.toList args.toList ds p := hA0
  rw [Tryz.params3] at hA hval
  obtain ⟨v0, vs0, d0, ds0, p0, q0, hargs, rfl, rfl, h0, r0⟩ := trodAll_cons hA
  obtain ⟨rfl, rfl, rfl⟩ := trodAll_nil r0
  obtain rfl : args = #[v0] := by cases args; simp_all
  obtain ⟨rfl, rfl⟩ := trodVars_none hV
  have k0 := h0
  have lt0 : ∀ x ∈ p0, x.block < W.heap.size := by obtain ⟨m, hm⟩ := k0; exact DataW.trod_lt m _ _ _ hm
  obtain ⟨a, len, cap, rfl, hlen, hC⟩ := open_code (hval 0 22 v0 rfl rfl) h0
  clear hA0 hval0
  refine (walkShows a len cap W hlen hC (tab_of_laid hL) (errs_of_laid hL)).mono fun e W' ⟨he, bel⟩ => ?_
  subst he
  exact ⟨_, rfl, _, _, _, [], _, [], hW', trodAll_mk1 (shut_bool Tryz.underlying4 _), (trodAll_cons_mk (Below.trod laidOut (by kernel_rfl) (of_decide_eq_true (by kernel_rfl)) k0 bel lt0) trodAll_mk0), rfl, bel.frame _, fun h => by cases h⟩

theorem overShows : Rows.FnShowsSaid :=
  OpenClaim.holds_of_wide 3 Tryz.f3 rfl rfl rfl rfl rfl rfl rfl ⟨rfl, rfl, rfl, rfl, rfl⟩ rfl rfl rfl rfl rfl (by kernel_rfl) Tryz.func3 (by kernel_rfl)
    (of_decide_eq_true (by kernel_rfl)) (by unfold Func.isWrapper; first | (rw [if_pos (by decide +kernel)]; kernel_rfl) | (rw [if_neg (by decide +kernel)]; exact ⟨rfl, rfl⟩))
    (fun os started H enc _ => liftedShows os started H enc)

theorem provedShows : Rows.FnShowsCardSaid :=
  Claim7.holds_tied_plain_at .later [] [.data, .data, .data, .sentinel, .sentinel] true Rows.fnShowsCard.stood.harness true
    overShows (fun _ h => by cases h) (by kernel_rfl) (fun _ h => by cases h) fnShows_row_tie rfl ⟨rfl, rfl⟩ (by kernel_rfl) rfl
    (fun f fn hf hfn => by
      obtain rfl : f = 3 := Option.some.inj ((show Tryz.prog.funcNamed Rows.fnShowsRow.func = some 3 by kernel_rfl).symm.trans hf) |>.symm
      obtain rfl : fn = Tryz.f3 := (Option.some.inj (Tryz.func3.symm.trans hfn)).symm
      exact ⟨by kernel_rfl, fun j t ht => by
        rw [Tryz.params3] at ht
        have hm : t ∈ [22] := by simpa using Array.mem_of_getElem? ht
        have hall : ([22].all fun u => !Tryz.prog.wantsStandIn u) = true := by kernel_rfl
        exact (show Tryz.prog.wantsStandIn t = false by simpa using List.all_eq_true.1 hall t hm)⟩)
    (by kernel_rfl)
#print axioms provedShows
end Go.Proofs.YtoclingolfdfeaaGreatDoor
