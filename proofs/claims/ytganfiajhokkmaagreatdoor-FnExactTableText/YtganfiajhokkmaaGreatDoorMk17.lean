/- Texts put together: GtxA TbF -/
import Derived.Test.YtganfiajhokkmaaGreatDoorMk16
import Derived.Test.YtganfiajhokkmaaGreatDoorMk12
import Derived.Test.YtganfiajhokkmaaGreatDoorMk03
import Derived.Test.YtganfiajhokkmaaGreatDoorMk02
import Derived.Deep.RegionHeld3
import Derived.Deep.RegionWith
import Derived.Lib.AppendStr
import Derived.Test.YtganfiajhokkmaaGreatDoorMk08
import Derived.Test.YtganfiajhokkmaaGreatDoorMk09
/- GtxA -/
namespace Go.Proofs.YtganfiajhokkmaaGreatDoor
open Go.RowKit Go.Deep
set_option maxRecDepth 100000

/-- What a term shows as, by its parts. -/
def Tm.show (t : Tm) (b : List Int) : List Int := showL t.k t.n t.s b
theorem Tm.show_len {t : Tm} {b : List Int} (h : termOk t.k b t.n t.s = true) : 1 ≤ (t.show b).length ∧ (t.show b).length ≤ 64 := showL_len h
/-- A row of bytes of the call's own, or none as yet. -/
def Own8 (w : World) (B : Nat) (v : Value) (n : Nat) (bs : List Int) : Prop := w.ownsRow B 5 1 v n (bs.map (Value.int .u8)) ∧ ∀ g, v.ownBlock = some g → B ≤ g ∧ g < w.heap.size
theorem Own8.nil (w : World) (B : Nat) : Own8 w B (.slice none 0 0) 0 [] := ⟨World.ownsRow_nil _ _ _ _, fun g h => by cases h⟩
theorem Own8.below {w w' : World} {B n : Nat} {v : Value} {bs : List Int} (h : Own8 w B v n bs) (hb : Below w.heap.size w w') : Own8 w' B v n bs := by
  obtain ⟨⟨h1, h2⟩, hl⟩ := h
  refine ⟨⟨h1, ?_⟩, fun g hg => ⟨(hl g hg).1, Nat.lt_of_lt_of_le (hl g hg).2 hb.size⟩⟩
  rcases h2 with h2 | ⟨g', cap', cur, hv, hB, hh, r⟩
  · exact .inl h2
  · refine .inr ⟨g', cap', cur, hv, hB, ?_, r⟩
    have := (hl g' (by rw [hv]; rfl)).2
    rw [hb.block g' this]
    exact hh
theorem Row8.own8 {w : World} {B g n cap : Nat} {bs : List Int} (h : Row8 w B g n cap bs) : Own8 w B (.slice (some ⟨g, 0, none⟩) n cap) n bs := by
  refine ⟨h.1, fun g' hg => ?_⟩
  have : g = g' := by simpa [Value.ownBlock] using hg
  subst this
  exact ⟨h.ge, h.2⟩
theorem Own8.len {w : World} {B n : Nat} {v : Value} {bs : List Int} (h : Own8 w B v n bs) : bs.length = n := by simpa using h.1.1
/-- A row that is told. -/
theorem Own8.nw {w : World} {B n : Nat} {v : Value} {bs : List Int} (h : Own8 w B v n bs) (hb : Byt bs) (hl : n ≤ 1048576) : ∃ a cap, v = .slice a n cap ∧ Nw w B a n bs := by
  rcases h.1.2 with ⟨hv, h0⟩ | ⟨g, cap, cur, hv, hB, hh⟩
  · subst h0
    have hz := h.len
    exact ⟨none, 0, hv, .inl ⟨rfl, rfl, List.eq_nil_of_length_eq_zero hz⟩⟩
  · subst hv
    have hr : Row8 w B g n cap bs := ⟨h.1, (h.2 g rfl).2⟩
    exact ⟨_, cap, rfl, hr.nw hb hl⟩

/-- append of a constant text's bytes. -/
theorem app8s {ops : Array Oper} {rest : List Oper} {o : Oper} {a : Act} {Q : Exit → Act → World → Prop} {w : World} (hgd : o.guard = none) (s x : Operand)
    (ho : o.op = .call { callee := .builtin .append, args := #[s, x], argTypes := #[27, 9] })
    (B : Nat) (v : Value) (n : Nat) (us : List Int) (hs : a.eval s = v) (HO : Hid (Own8 w B v n us))
    (st : ByteArray) (hx : a.eval x = .string st) (hm : 0 < st.size) (N : Nat) (hN : n + st.size = N) (zs : List Int) (hz : us ++ numsOf st = zs) (hle : N ≤ 1000000000) (hB : B ≤ w.heap.size)
    (h : ∀ g cap w', Hid (Row8 w' B g N cap zs) → Hid (Below B w w') → wpList Tryz.prog ops Q rest (a.put o.dst (.slice (some ⟨g, 0, none⟩) N cap)) w') :
    wpList Tryz.prog ops Q (o :: rest) a w := by
  obtain ⟨i0, hi0, hzz⟩ := Option.map_eq_some_iff.1 Tryz.info5
  simp only [Prod.mk.injEq] at hzz
  obtain ⟨hi2, hi1, hi3⟩ := hzz
  subst hN hz
  refine Lib.wpList_append_own_string _ hgd s x 27 9 ho B 5 i0 Tryz.underlying27 Tryz.underlying9 hi0 hi2 hi1 hi3 v n (us.map (Value.int .u8)) hs HO.out.1 st hx (by unfold maxLen; omega) (by omega) hB ?_
  intro v' w' hown hgr _
  obtain ⟨g, cap, rfl, hBg, hlt⟩ := hown.form (by omega)
  have es : Lib.strCells st = (numsOf st).map (Value.int .u8) := by simp [Lib.strCells, numsOf]
  rw [es] at hown
  refine h g cap w' (Row8.grown hown rfl hlt) ?_
  rcases HO.out.1.2 with ⟨hv, _⟩ | ⟨g0, c0, cur, hv, hb, _⟩
  · subst hv
    exact below_nil hgr hB
  · subst hv
    exact grown_below (g := g0) hgr hb hB
end Go.Proofs.YtganfiajhokkmaaGreatDoor

/- TbF -/
namespace Go.Proofs.YtganfiajhokkmaaGreatDoor
open Go.RowKit Go.Deep
set_option maxRecDepth 100000

set_option maxHeartbeats 4000000 in
theorem l6solOk_any (s : SO) (n : Nat) (w : World) (h : s.lies 0 w) (hn : n ≤ 1048576) : Calls Tryz.prog 16 #[.agg #[.slice s.a s.n s.cap], .int .i64 n] w (Tells (solOk s n) w) := by
  by_cases hsn : s.n = n
  rotate_left
  · have hne : ((s.n : Int) == (n : Int)) = false := by simp; omega
    have hnf : ((s.n : Int) != (n : Int)) = true := by simp; omega
    have HNO : Hid (¬ solOk s n) := fun hh => hsn hh.1
    clear h hsn
    go_enter Tryz.func16, Tryz.ntmps16
    go_wp2_with fail
    go_ret
    exact Tells.no HNO.out (bl_a _)
  subst hsn
  obtain ⟨hR, hl, hn2⟩ := h
  have HTM : Hid (∀ i, i < s.n → ∀ W, Below w.heap.size w W → Calls Tryz.prog 34 #[.agg #[.int .i64 (s.cel i).t.t.k, .slice (s.cel i).t.t.a (s.cel i).t.t.len (s.cel i).t.t.cap, .int .i64 (s.cel i).t.t.n, .int .i64 (s.cel i).t.t.s]] W (Tells ((s.cel i).t.td.ok = true) W)) := fun i hi W hb => (specTermOk_any (s.cel i).t.t.k (s.cel i).t.t.n (s.cel i).t.t.s (s.cel i).t.t.a (s.cel i).t.t.len (s.cel i).t.t.cap (s.cel i).t.b W ((hl i hi).1.upper (Upper.of_below hb)).1 (hl i hi).2.1 (hl i hi).2.2.1).mono fun e w' ⟨h1, o, h2⟩ => by
    subst h1 h2
    exact Tells.of Iff.rfl (bl_a _)
  have HZT : Hid (∀ i, i < s.n → ∀ W, Below w.heap.size w W → Calls Tryz.prog 35 #[.agg #[.int .i64 (s.cel i).t.t.k, .slice (s.cel i).t.t.a (s.cel i).t.t.len (s.cel i).t.t.cap, .int .i64 (s.cel i).t.t.n, .int .i64 (s.cel i).t.t.s]] W (Tells (zeroT (s.cel i).t.td) W)) := fun i hi W hb => l4zeroTerm_any (s.cel i).t W ((hl i hi).1.upper (Upper.of_below hb))
  clear hl
  by_cases hn0 : s.n = 0
  · have HY : Hid (solOk s s.n) := ⟨rfl, fun i hi => absurd hi (by omega)⟩
    rw [hn0] at HY ⊢
    clear hR hn hn2 hn0 HTM HZT
    go_enter Tryz.func16, Tryz.ntmps16
    go_wp2_with fail
    refine wp_loop_rounds 1 ?_
    rw [rounds_succ]
    go_wp2_with fail
    go_ret
    exact Tells.yes HY.out (bl_a _)
  obtain ⟨b, off, ea, _, hlt, hc⟩ := hR.resolve_left hn0
  have HC : Hid (∀ i, i < s.n → ∀ c u, ((s.cel i).cells)[c]? = some u → w.cell? ⟨b, off + i * 5 + c, none⟩ = some u) := hc
  obtain ⟨m, hm⟩ : ∃ m, m = s.n := ⟨_, rfl⟩
  have HM : Hid (m = s.n) := hm
  have HX0 : Hid (Box (w.alloc (.cells #[.slice (some ⟨b, off, none⟩) m s.cap] 44)) w.heap.size [.slice (some ⟨b, off, none⟩) m s.cap]) := Box.new w _ _ _
  rw [ea, ← hm]
  rw [← hm] at hn hn0
  clear hR hc ea hm hn2
  go_enter Tryz.func16, Tryz.ntmps16
  go_wp2_with fail
  go_loopw [5] (fun i wr => ∃ k : Nat, k ≤ m ∧ i = .int .i64 k ∧ Hid (∀ j, j < k → cellOk (s.cel j)) ∧ Hid (Below w.heap.size w wr) ∧ Hid (Box wr w.heap.size [.slice (some ⟨b, off, none⟩) m s.cap])) (fun i _ => m - (intOf i).toNat)
  case atStart => exact ⟨0, Nat.zero_le _, rfl, fun j hj => absurd hj (Nat.not_lt_zero _), bl_a _, HX0⟩
  case round =>
    clear HX0
    obtain ⟨k, hk, rfl, HOK, HB, HX⟩ := hrel
    by_cases hlk : k < m
    rotate_left
    · obtain rfl : k = m := by omega
      have hlkz : ¬ (k : Int) < (k : Int) := by omega
      have HY : Hid (solOk s k) := ⟨HM.out.symm, fun i hi => HOK.out i (by rw [HM.out]; exact hi)⟩
      go_wp2_with fail
      go_ret
      exact Tells.yes HY.out HB.out
    have hlkz : (k : Int) < (m : Int) := by omega
    have hks : k < s.n := by rw [← HM.out]; exact hlk
    have x0 := HX.out.2 0 _ rfl
    have hcx : ∀ c u, ((s.cel k).cells)[c]? = some u → wr.cell? ⟨b, off + k * 5 + c, none⟩ = some u := fun c u hu => (HB.out.cell (p := ⟨b, off + k * 5 + c, none⟩) hlt).trans (HC.out k hks c u hu)
    have y0 := hcx 0 _ rfl
    have y1 := hcx 1 _ rfl
    have y2 := hcx 2 _ rfl
    have y3 := hcx 3 _ rfl
    have y4 := hcx 4 _ rfl
    simp only [Nat.add_zero] at y0
    have ZT := HTM.out k hks wr HB.out
    have ZZ := HZT.out k hks wr HB.out
    clear hcx
    cases hh : (s.cel k).has with
    | true =>
      rw [hh] at y0
      have HH : Hid ((s.cel k).has = true) := hh
      clear hh ZZ
      go_wp2_with fail
      refine ZT.mono ?_
      rintro e w2 ⟨q2, rfl, hq2, hb2⟩
      have HB2 : Hid (Below w.heap.size w w2) := bl_trans HB.out hb2
      have HX2 : Hid (Box w2 w.heap.size [.slice (some ⟨b, off, none⟩) m s.cap]) := HX.out.below hb2
      have x1 := HX2.out.2 0 _ rfl
      have z0 := (hb2.cell (p := ⟨b, off + k * 5, none⟩) (Nat.lt_of_lt_of_le hlt HB.out.size)).trans y0
      clear hb2 ZT x0 y0 y1 y2 y3 y4 HB HX
      cases q2 with
      | false =>
        have HNO : Hid (¬ solOk s m) := fun hq => by have h := hq2.2 ((hq.2 k hks).1 HH.out); cases h
        clear hq2
        go_wp2_with fail
        go_ret
        exact Tells.no HNO.out HB2.out
      | true =>
        have HCK : Hid (cellOk (s.cel k)) := ⟨fun _ => hq2.1 rfl, fun h => by rw [HH.out] at h; cases h⟩
        clear hq2
        go_wp2_with fail
        go_roundw
        case rel =>
          refine ⟨k + 1, by omega, by go_num, fun j hj => ?_, HB2, HX2⟩
          by_cases e : j = k
          · subst e
            exact HCK.out
          · exact HOK.out j (by omega)
        case measure => simp [intOf]; omega
    | false =>
      rw [hh] at y0
      have HH : Hid ((s.cel k).has = false) := hh
      clear hh ZT
      go_wp2_with fail
      refine ZZ.mono ?_
      rintro e w2 ⟨q2, rfl, hq2, hb2⟩
      have HB2 : Hid (Below w.heap.size w w2) := bl_trans HB.out hb2
      have HX2 : Hid (Box w2 w.heap.size [.slice (some ⟨b, off, none⟩) m s.cap]) := HX.out.below hb2
      clear hb2 ZZ x0 y0 y1 y2 y3 y4 HB HX
      cases q2 with
      | false =>
        have HNO : Hid (¬ solOk s m) := fun hq => by have h := hq2.2 ((hq.2 k hks).2 HH.out); cases h
        clear hq2
        go_wp2_with fail
        go_ret
        exact Tells.no HNO.out HB2.out
      | true =>
        have HCK : Hid (cellOk (s.cel k)) := ⟨fun h => (by rw [HH.out] at h; cases h), fun _ => hq2.1 rfl⟩
        clear hq2
        go_wp2_with fail
        go_roundw
        case rel =>
          refine ⟨k + 1, by omega, by go_num, fun j hj => ?_, HB2, HX2⟩
          by_cases e : j = k
          · subst e
            exact HCK.out
          · exact HOK.out j (by omega)
        case measure => simp [intOf]; omega
theorem hidQ {P : Prop} (h : P) : Hid P := h
/-- What adding to a text answers. -/
def SayAns (B : Nat) (bs : List Int) (w : World) (e : Ending) (w' : World) : Prop := ∃ v n, e = .returned v ∧ Own8 w' B v n bs ∧ Below B w w'
set_option maxHeartbeats 4000000 in
theorem l4sayVar_any (v : Value) (n B : Nat) (bs : List Int) (x : SL) (w0 w : World) (HO : Own8 w B v n bs) (hx : BsF 0 w0 x) (hw : Below w0.heap.size w0 w) (h0 : w0.heap.size ≤ B) (hB : B ≤ w.heap.size) (hl : 0 < x.len) (hn : n + x.len + 2 ≤ 1000000) :
    Calls Tryz.prog 36 #[v, .slice x.a x.len x.cap] w (SayAns B (bs ++ 63 :: (x.b ++ [32])) w) := by
  obtain ⟨hlen, hsm, _, hm⟩ := hx.1
  obtain ⟨b, off, ha, hlt, _⟩ := hm.resolve_left (by omega)
  have HX : Hid (∀ W, Below w0.heap.size w0 W → ∀ j u, (x.b.map (Value.int .u8))[j]? = some u → W.cell? ((⟨b, off, none⟩ : Addr).add j) = some u) := fun W hb => bs_news (by rw [← ha]; exact hx.1.below hb)
  have HL : Hid (x.b.length = x.len) := hlen
  have HO1 : Hid ((w.alloc (.cells #[.int .u8 63] 5)).ownsRow B 5 1 v n (bs.map (Value.int .u8))) := (HO.below (bl_a _)).1
  have HN1 : Hid (∀ j u, (([63] : List Int).map (Value.int .u8))[j]? = some u → (w.alloc (.cells #[.int .u8 63] 5)).cell? ((⟨w.heap.size, 0, none⟩ : Addr).add j) = some u) := one_news w 63
  have HW : Hid (Below w0.heap.size w0 w) := hw
  have hB1 : B ≤ (w.alloc (.cells #[.int .u8 63] 5)).heap.size := by simp; omega
  rw [ha]
  clear hx hw hlen hsm hm ha HO
  go_enter Tryz.func36, Tryz.ntmps36
  go_wp2_with (first
    | (refine app8 rfl (.tmp 5) (.tmp 6) rfl B v n bs rfl HO1 ⟨w.heap.size, 0, none⟩ 1 1 [63] rfl rfl HN1 (by omega) (n + 1) rfl (bs ++ [63]) rfl (by omega) hB1 ?_; intro g3 c3 w3 HR3 _ _ HB3x; have HB3 : Hid (Below B w w3) := ((bl_a (w := w) _).mono hB).trans HB3x.out; have HO3 := HR3.out.own; have HN3 := hidQ (HX.out w3 (HW.out.trans (HB3.out.mono h0))); have hB3 : B ≤ w3.heap.size := Nat.le_trans hB HB3.out.size; clear HB3x HO1 HN1 hB1)
    | (refine app8 rfl (.tmp 7) (.tmp 8) rfl B (.slice (some ⟨g3, 0, none⟩) (n + 1) c3) (n + 1) (bs ++ [63]) rfl HO3 ⟨b, off, none⟩ x.len x.cap x.b rfl HL.out HN3 (by omega) (n + 1 + x.len) rfl (bs ++ [63] ++ x.b) rfl (by omega) hB3 ?_; intro g4 c4 w4 HR4 _ _ HB4x; have HB4 : Hid (Below B w w4) := HB3.out.trans HB4x.out; have HO4 := hidQ ((HR4.out.below (bl_a (.cells #[.int .u8 32] 5))).1); have HN4 := hidQ (one_news w4 32); have hB4 : B ≤ (w4.alloc (.cells #[.int .u8 32] 5)).heap.size := Nat.le_trans hB (Nat.le_trans HB4.out.size (by simp)); clear HB4x HO3 HN3 hB3)
    | (refine app8 rfl (.tmp 9) (.tmp 10) rfl B (.slice (some ⟨g4, 0, none⟩) (n + 1 + x.len) c4) (n + 1 + x.len) (bs ++ [63] ++ x.b) rfl HO4 ⟨w4.heap.size, 0, none⟩ 1 1 [32] rfl rfl HN4 (by omega) (n + 1 + x.len + 1) rfl (bs ++ [63] ++ x.b ++ [32]) rfl (by omega) hB4 ?_; intro g5 c5 w5 HR5 _ _ HB5x; have HB5 : Hid (Below B w w5) := (HB4.out.trans ((bl_a (w := w4) _).mono (Nat.le_trans hB HB4.out.size))).trans HB5x.out; clear HB5x HO4 HN4 hB4))
  go_ret
  refine ⟨_, n + 1 + x.len + 1, rfl, ?_, HB5.out⟩
  have h := HR5.out.own8
  simpa using h
set_option maxHeartbeats 4000000 in
theorem l4word_any (v : Value) (n B : Nat) (bs : List Int) (st : ByteArray) (w : World) (HO : Own8 w B v n bs) (hB : B ≤ w.heap.size) (hl : 0 < st.size) (hn : n + st.size + 1 ≤ 1000000) :
    Calls Tryz.prog 37 #[v, .string st] w (SayAns B (bs ++ (numsOf st ++ [32])) w) := by
  have HO1 : Hid (Own8 w B v n bs) := HO
  clear HO
  go_enter Tryz.func37, Tryz.ntmps37
  go_wp2_with (first
    | (refine app8s rfl (.tmp 5) (.tmp 6) rfl B v n bs rfl HO1 st rfl hl (n + st.size) rfl (bs ++ numsOf st) rfl (by omega) hB ?_; intro g4 c4 w4 HR4 HB4; have HO4 := hidQ ((HR4.out.below (bl_a (.cells #[.int .u8 32] 5))).1); have HN4 := hidQ (one_news w4 32); have hB4 : B ≤ (w4.alloc (.cells #[.int .u8 32] 5)).heap.size := Nat.le_trans hB (Nat.le_trans HB4.out.size (by simp)); clear HO1)
    | (refine app8 rfl (.tmp 7) (.tmp 8) rfl B (.slice (some ⟨g4, 0, none⟩) (n + st.size) c4) (n + st.size) (bs ++ numsOf st) rfl HO4 ⟨w4.heap.size, 0, none⟩ 1 1 [32] rfl rfl HN4 (by omega) (n + st.size + 1) rfl (bs ++ numsOf st ++ [32]) rfl (by omega) hB4 ?_; intro g5 c5 w5 HR5 _ _ HB5x; have HB5 : Hid (Below B w w5) := (HB4.out.trans ((bl_a (w := w4) _).mono (Nat.le_trans hB HB4.out.size))).trans HB5x.out; clear HB5x HO4 HN4 hB4))
  go_ret
  refine ⟨_, n + st.size + 1, rfl, ?_, HB5.out⟩
  have h := HR5.out.own8
  simpa using h
end Go.Proofs.YtganfiajhokkmaaGreatDoor
