/- Texts put together: ShwJ GtxA GtxB -/
import Derived.Test.YtiodiooaaojbhaaGreatDoorNk15
import Derived.Test.YtiodiooaaojbhaaGreatDoorNk08
import Derived.Lib.AppendStr
/- ShwJ -/
namespace Go.Proofs.YtiodiooaaojbhaaGreatDoor
open Go.RowKit Go.Deep
set_option maxRecDepth 100000

theorem conv_res {w w1 : World} (S : ByteArray) (N : Nat) {bs : List Int} (hb : Below w.heap.size w w1) (hN : S.size = N) (hn : numsOf S = bs) (hl : bs.length ≤ 1048576) :
    TxRes w bs (.returned (.slice (some ⟨w1.heap.size, 0, none⟩) N (grownCap w1 N 0 5))) (Lib.bytesWorld w1 5 S) := by
  have hs : S.size = bs.length := by rw [← hn, numsOf_len]
  have := Tx.conv w1 S 5 (by omega)
  rw [hn, hs] at this
  rw [← hN, hs]
  exact ⟨_, _, rfl, this.nw.mono hb.size, bl_trans hb (bytesWorld_below _ _ _)⟩

theorem size_name (st : ByteArray) : (({ data := #[60] } : ByteArray) ++ st ++ { data := #[62] }).size = 1 + st.size + 1 := by
  rw [ByteArray.size_append, ByteArray.size_append]
  rfl
theorem size_blank (st : ByteArray) : (({ data := #[95, 58] } : ByteArray) ++ st).size = 2 + st.size := by
  rw [ByteArray.size_append]
  rfl
theorem text_any (n s : Int) (w : World) (h : numOk n s = true) (ht : Tab w) :
    Calls Tryz.prog 117 #[.agg #[.int .i64 n, .int .i64 s]] w fun e w' => StrRes w (showL 3 n s []) e w' := by
  have hb := numOk_bounds h
  obtain ⟨t, rfl⟩ : ∃ t : Nat, s = t := ⟨s.toNat, by omega⟩
  by_cases hn : n < 0
  · obtain ⟨m, rfl⟩ : ∃ m, n = -m := ⟨-n, by omega⟩
    have := text_neg m t w (by omega) (by omega) (by omega) ht
    have e : showL 3 (-m) t [] = 45 :: numL m t := by simp [showL]; omega
    rw [e]
    exact this
  · have := text_pos n t w (by omega) (by omega) (by omega) ht
    have e : showL 3 n t [] = numL n t := by simp [showL, hn]
    rw [e]
    exact this

set_option maxHeartbeats 1000000 in
theorem implShow_any (k n s : Int) (a : Option Addr) (len cap : Nat) (bs : List Int) (w : World) (hB : Bs w a len bs) (h1 : -9223372036854775808 ≤ n) (h2 : n ≤ 9223372036854775807) (h3 : -9223372036854775808 ≤ s) (h4 : s ≤ 9223372036854775807) (ht : Tab w) :
    Calls Tryz.prog 102 #[.agg #[.int .i64 k, .slice a len cap, .int .i64 n, .int .i64 s]] w fun e w' => TxRes w (shownL k n s bs) e w' := by
  have T := fun o => implTermOk_any k n s a len cap bs (w.alloc o) (hB.below (bl_a o)) h1 h2 h3 h4
  have hcv := fun (w : World) (s : ByteArray) => Lib.run_convert_string_bytes (P := Tryz.prog) w 9 22 5 s Tryz.underlying9 Tryz.underlying22 Tryz.underlying5
  have HA := At4.new w (.int .i64 k) (.slice a len cap) (.int .i64 n) (.int .i64 s) 43
  have HT : Hid (Tab (w.alloc (.cells #[.int .i64 k, .slice a len cap, .int .i64 n, .int .i64 s] 43))) := ht.below (bl_a _)
  have HBs : Hid (Bs (w.alloc (.cells #[.int .i64 k, .slice a len cap, .int .i64 n, .int .i64 s] 43)) a len bs) := hB.below (bl_a _)
  have HY : Hid (Byt bs) := hB.byt
  have HL : Hid (bs.length = len) := hB.1
  cases hok : termOk k bs n s
  · have e : shownL k n s bs = [] := by simp [shownL, hok]
    rw [e]
    rw [hok] at T
    clear hB hcv HA HT HBs
    go_enter Tryz.func102, Tryz.ntmps102
    go_wp2_with fail
    refine (T _).mono ?_
    rintro e w1 ⟨rfl, hb1⟩
    have HB1 : Hid (Below w.heap.size w w1) := bl_trans (bl_a _) hb1
    clear hb1 T
    go_wp2_with fail
    go_ret
    exact ⟨none, 0, rfl, Nw.nil _ _, HB1.out⟩
  · have e : shownL k n s bs = showL k n s bs := by simp [shownL, hok]
    rw [e]
    have hln := showL_len hok
    have HYY : Hid (Byt (showL k n s bs)) := showL_byt HY.out
    rw [hok] at T
    have HOK := hok
    unfold termOk at hok
    clear hB ht
    split at hok
    · rename_i hk
      subst hk
      have HE : Hid (showL 0 n s bs = 60 :: (bs ++ [62])) := by show _ = _; simp [showL]
      have hz : (strOfNums bs).size ≤ 12 := by rw [strOfNums_size]; simp [nameOk] at hok; omega
      have HN : Hid (numsOf (strOfNums bs) = bs) := numsOf_nums HY.out
      generalize showL 0 n s bs = L at *
      clear hok HOK HT
      go_enter Tryz.func102, Tryz.ntmps102
      go_wp2_with fail
      refine (T _).mono ?_
      rintro e w1 ⟨rfl, hb1⟩
      obtain ⟨a0, a1, a2, a3, a4⟩ := HA.below hb1
      have hv := (HBs.out.below hb1).str (cap := cap)
      have HB1 : Hid (Below w.heap.size w w1) := bl_trans (bl_a _) hb1
      clear hb1 T HA HBs
      generalize strOfNums bs = st at *
      go_wp2_with fail
      go_ret
      refine conv_res ({ data := #[60] } ++ st ++ { data := #[62] }) (1 + st.size + 1) (bs := L) HB1.out (size_name st) ?_ (by omega)
      rw [HE.out]
      simp only [numsOf_append, HN.out]
      simp [numsOf]
    split at hok
    · rename_i k0 hk
      subst hk
      have HE : Hid (showL 1 n s bs = 95 :: 58 :: digitsL n.toNat) := by show _ = _; simp [showL]
      have hn : 0 ≤ n := by simp at hok; omega
      have I := fun w ht => itoa_any n w hn h2 ht
      have hL := digitsL_len 18 n.toNat (by omega)
      generalize showL 1 n s bs = L at *
      generalize digitsL n.toNat = d at *
      clear hok HOK
      go_enter Tryz.func102, Tryz.ntmps102
      go_wp2_with fail
      refine (T _).mono ?_
      rintro e w1 ⟨rfl, hb1⟩
      obtain ⟨a0, a1, a2, a3, a4⟩ := HA.below hb1
      have HB1 : Hid (Below w.heap.size w w1) := bl_trans (bl_a _) hb1
      have HT1 : Hid (Tab w1) := HT.out.below hb1
      clear hb1 T HA HBs HT
      go_wp2_with fail
      refine (I _ HT1.out).mono ?_
      rintro e w2 ⟨st, rfl, hst, hb2⟩
      have HB2 : Hid (Below w.heap.size w w2) := bl_trans HB1.out hb2
      have HN : Hid (numsOf st = d) := hst
      have hz : st.size ≤ 19 := by rw [← numsOf_len, hst]; omega
      clear hb2 hst I HT1 HB1
      go_wp2_with fail
      go_ret
      refine conv_res ({ data := #[95, 58] } ++ st) (2 + st.size) (bs := L) HB2.out (size_blank st) ?_ (by omega)
      rw [HE.out]
      simp only [numsOf_append, HN.out]
      simp [numsOf]
    split at hok
    · rename_i k0 k1 hk
      subst hk
      have HE : Hid (showL 2 n s bs = 34 :: (esc bs ++ [34])) := by show _ = _; simp [showL]
      have Q := fun w hB => quoted_any a len cap bs w hB
      generalize showL 2 n s bs = L at *
      generalize (34 :: (esc bs ++ [34])) = L2 at *
      obtain rfl : L = L2 := HE.out
      clear hok HOK HT HE
      go_enter Tryz.func102, Tryz.ntmps102
      go_wp2_with fail
      refine (T _).mono ?_
      rintro e w1 ⟨rfl, hb1⟩
      obtain ⟨a0, a1, a2, a3, a4⟩ := HA.below hb1
      have HB1 : Hid (Below w.heap.size w w1) := bl_trans (bl_a _) hb1
      have HBs1 : Hid (Bs w1 a len bs) := HBs.out.below hb1
      clear hb1 T HA HBs
      go_wp2_with fail
      refine (Q _ HBs1.out).mono ?_
      intro e w2 hR
      have HR := (hR.later HB1.out).tx HYY.out (by omega)
      clear hR Q
      obtain ⟨x, cp, rfl, hr, hbl⟩ := HR
      have HR : Hid (Nw w2 w.heap.size x L.length L) := hr
      have HB : Hid (Below w.heap.size w w2) := hbl
      clear hr hbl
      go_wp2_with fail
      go_ret
      exact ⟨x, cp, rfl, HR.out, HB.out⟩
    split at hok
    · rename_i k0 k1 k2 hk
      subst hk
      have HE : Hid (showL 3 n s bs = showL 3 n s []) := by show _ = _; simp [showL]
      simp only [Bool.and_eq_true] at hok
      have X := fun w ht => text_any n s w hok.2 ht
      have D := fun w => decimal_any 3 n s a len cap w
      rw [HE.out] at hln HYY ⊢
      clear HE HOK hok
      generalize showL 3 n s [] = L at *
      go_enter Tryz.func102, Tryz.ntmps102
      go_wp2_with fail
      refine (T _).mono ?_
      rintro e w1 ⟨rfl, hb1⟩
      obtain ⟨a0, a1, a2, a3, a4⟩ := HA.below hb1
      have HB1 : Hid (Below w.heap.size w w1) := bl_trans (bl_a _) hb1
      have HT1 : Hid (Tab w1) := HT.out.below hb1
      clear hb1 T HA HBs HT
      go_wp2_with fail
      refine (D _).mono ?_
      rintro e w1' ⟨rfl, o1, o2, rfl⟩
      have HB1' : Hid (Below w.heap.size w ((w1.alloc o1).alloc o2)) := bl_alloc (bl_alloc HB1.out _) _
      have HT1' : Hid (Tab ((w1.alloc o1).alloc o2)) := HT1.out.below (bl_alloc (bl_a _) _)
      go_wp2_with fail
      refine (X _ HT1'.out).mono ?_
      rintro e w2 ⟨st, rfl, hst, hb2⟩
      have HB2 : Hid (Below w.heap.size w w2) := bl_trans HB1'.out hb2
      have HN : Hid (numsOf st = L) := hst
      have hz : st.size ≤ 64 := by rw [← numsOf_len, hst]; omega
      clear hb2 hst X HT1 HB1 HB1' HT1'
      go_wp2_with fail
      go_ret
      exact conv_res st st.size (bs := L) HB2.out rfl HN.out (by omega)
    · cases hok
end Go.Proofs.YtiodiooaaojbhaaGreatDoor

/- GtxA -/
namespace Go.Proofs.YtiodiooaaojbhaaGreatDoor
open Go.RowKit Go.Deep
set_option maxRecDepth 100000

/-- What a term shows as, by its parts. -/
def Tm.show (t : Tm) (b : List Int) : List Int := showL t.k t.n t.s b
/-- A triple's line. -/
def lineL (t u v : Tm) (bt bu bv : List Int) : List Int := t.show bt ++ 32 :: (u.show bu ++ 32 :: (v.show bv ++ [32, 46, 10]))
/-- The lines of the first i triples. -/
def linesL (T U V : Nat → Tm) (bt bu bv : Nat → List Int) : Nat → List Int
  | 0 => []
  | i + 1 => linesL T U V bt bu bv i ++ lineL (T i) (U i) (V i) (bt i) (bu i) (bv i)
/-- What GraphText tells. -/
def textL (n : Nat) (T U V : Nat → Tm) (bt bu bv : Nat → List Int) : List Int := if graphOk n T U V bt bu bv = true then linesL T U V bt bu bv n else []

theorem Tm.show_len {t : Tm} {b : List Int} (h : termOk t.k b t.n t.s = true) : 1 ≤ (t.show b).length ∧ (t.show b).length ≤ 64 := showL_len h
theorem stepOk_terms {T U V : Nat → Tm} {bt bu bv : Nat → List Int} {i : Nat} (h : stepOk T U V bt bu bv i = true) : termOk (T i).k (bt i) (T i).n (T i).s = true ∧ termOk (U i).k (bu i) (U i).n (U i).s = true ∧ termOk (V i).k (bv i) (V i).n (V i).s = true :=
  tripleOk_out (stepOk_first h)
theorem lineL_len {t u v : Tm} {bt bu bv : List Int} (h1 : termOk t.k bt t.n t.s = true) (h2 : termOk u.k bu u.n u.s = true) (h3 : termOk v.k bv v.n v.s = true) : (lineL t u v bt bu bv).length ≤ 200 := by
  have a1 := Tm.show_len h1
  have a2 := Tm.show_len h2
  have a3 := Tm.show_len h3
  unfold lineL
  simp
  omega
/-- The terms of a triple may be. -/
def TOk (T U V : Nat → Tm) (bt bu bv : Nat → List Int) (i : Nat) : Prop := termOk (T i).k (bt i) (T i).n (T i).s = true ∧ termOk (U i).k (bu i) (U i).n (U i).s = true ∧ termOk (V i).k (bv i) (V i).n (V i).s = true
theorem linesL_len {T U V : Nat → Tm} {bt bu bv : Nat → List Int} (i : Nat) (h : ∀ j, j < i → TOk T U V bt bu bv j) : (linesL T U V bt bu bv i).length ≤ i * 200 := by
  induction i with
  | zero => simp [linesL]
  | succ i ih =>
    have h1 := ih (fun j hj => h j (by omega))
    obtain ⟨a1, a2, a3⟩ := h i (by omega)
    have h2 := lineL_len a1 a2 a3
    simp only [linesL, List.length_append]
    omega
theorem graphOk_out {n : Nat} {T U V : Nat → Tm} {bt bu bv : Nat → List Int} (h : graphOk n T U V bt bu bv = true) : n ≤ 60 ∧ ∀ i, i < n → stepOk T U V bt bu bv i = true := by
  simp [graphOk] at h
  exact h
theorem linesL_byt {T U V : Nat → Tm} {bt bu bv : Nat → List Int} (n : Nat) (h1 : ∀ i, i < n → Byt (bt i)) (h2 : ∀ i, i < n → Byt (bu i)) (h3 : ∀ i, i < n → Byt (bv i)) : Byt (linesL T U V bt bu bv n) := by
  induction n with
  | zero => exact Byt.nil
  | succ n ih =>
    refine (ih (fun i hi => h1 i (by omega)) (fun i hi => h2 i (by omega)) (fun i hi => h3 i (by omega))).app ?_
    refine (showL_byt (h1 n (by omega))).app (Byt.cons (by omega) ?_)
    refine (showL_byt (h2 n (by omega))).app (Byt.cons (by omega) ?_)
    exact (showL_byt (h3 n (by omega))).app (Byt.cons (by omega) (Byt.cons (by omega) (Byt.cons (by omega) Byt.nil)))

/-- A row of bytes of the call's own, or none as yet. -/
def Own8 (w : World) (B : Nat) (v : Value) (n : Nat) (bs : List Int) : Prop := w.ownsRow B 5 1 v n (bs.map (Value.int .u8)) ∧ ∀ g, v.ownBlock = some g → B ≤ g ∧ g < w.heap.size
theorem Own8.nil (w : World) (B : Nat) : Own8 w B (.slice none 0 0) 0 [] := ⟨World.ownsRow_nil _ _ _ _, fun g h => by cases h⟩
theorem Own8.below {w w' : World} {B n : Nat} {v : Value} {bs : List Int} (h : Own8 w B v n bs) (hb : Below w.heap.size w w') : Own8 w' B v n bs := by
  obtain ⟨⟨h1, h2⟩, hl⟩ := h
  refine ⟨⟨h1, ?_⟩, fun g hg => ⟨(hl g hg).1, Nat.lt_of_lt_of_le (hl g hg).2 hb.size⟩⟩
  rcases h2 with h2 | ⟨g', cap', cur, hv, hB, hh, r⟩
  · exact .inl h2
  · refine .inr ⟨g', cap', cur, hv, hB, ?_, r⟩
    have := (hl g' (by rw [hv]; rfl)).2
    rw [hb.block g' this]
    exact hh
theorem Row8.own8 {w : World} {B g n cap : Nat} {bs : List Int} (h : Row8 w B g n cap bs) : Own8 w B (.slice (some ⟨g, 0, none⟩) n cap) n bs := by
  refine ⟨h.1, fun g' hg => ?_⟩
  have : g = g' := by simpa [Value.ownBlock] using hg
  subst this
  exact ⟨h.ge, h.2⟩
theorem Own8.len {w : World} {B n : Nat} {v : Value} {bs : List Int} (h : Own8 w B v n bs) : bs.length = n := by simpa using h.1.1
/-- A row that is told. -/
theorem Own8.nw {w : World} {B n : Nat} {v : Value} {bs : List Int} (h : Own8 w B v n bs) (hb : Byt bs) (hl : n ≤ 1048576) : ∃ a cap, v = .slice a n cap ∧ Nw w B a n bs := by
  rcases h.1.2 with ⟨hv, h0⟩ | ⟨g, cap, cur, hv, hB, hh⟩
  · subst h0
    have hz := h.len
    exact ⟨none, 0, hv, .inl ⟨rfl, rfl, List.eq_nil_of_length_eq_zero hz⟩⟩
  · subst hv
    have hr : Row8 w B g n cap bs := ⟨h.1, (h.2 g rfl).2⟩
    exact ⟨_, cap, rfl, hr.nw hb hl⟩

/-- append of a constant text's bytes. -/
theorem app8s {ops : Array Oper} {rest : List Oper} {o : Oper} {a : Act} {Q : Exit → Act → World → Prop} {w : World} (hgd : o.guard = none) (s x : Operand)
    (ho : o.op = .call { callee := .builtin .append, args := #[s, x], argTypes := #[22, 9] })
    (B : Nat) (v : Value) (n : Nat) (us : List Int) (hs : a.eval s = v) (HO : Hid (Own8 w B v n us))
    (st : ByteArray) (hx : a.eval x = .string st) (hm : 0 < st.size) (N : Nat) (hN : n + st.size = N) (zs : List Int) (hz : us ++ numsOf st = zs) (hle : N ≤ 1000000000) (hB : B ≤ w.heap.size)
    (h : ∀ g cap w', Hid (Row8 w' B g N cap zs) → Hid (Below B w w') → wpList Tryz.prog ops Q rest (a.put o.dst (.slice (some ⟨g, 0, none⟩) N cap)) w') :
    wpList Tryz.prog ops Q (o :: rest) a w := by
  obtain ⟨i0, hi0, hzz⟩ := Option.map_eq_some_iff.1 Tryz.info5
  simp only [Prod.mk.injEq] at hzz
  obtain ⟨hi2, hi1, hi3⟩ := hzz
  subst hN hz
  refine Lib.wpList_append_own_string _ hgd s x 22 9 ho B 5 i0 Tryz.underlying22 Tryz.underlying9 hi0 hi2 hi1 hi3 v n (us.map (Value.int .u8)) hs HO.out.1 st hx (by unfold maxLen; omega) (by omega) hB ?_
  intro v' w' hown hgr _
  obtain ⟨g, cap, rfl, hBg, hlt⟩ := hown.form (by omega)
  have es : Lib.strCells st = (numsOf st).map (Value.int .u8) := by simp [Lib.strCells, numsOf]
  rw [es] at hown
  refine h g cap w' (Row8.grown hown rfl hlt) ?_
  rcases HO.out.1.2 with ⟨hv, _⟩ | ⟨g0, c0, cur, hv, hb, _⟩
  · subst hv
    exact below_nil hgr hB
  · subst hv
    exact grown_below (g := g0) hgr hb hB
end Go.Proofs.YtiodiooaaojbhaaGreatDoor

/- GtxB -/
namespace Go.Proofs.YtiodiooaaojbhaaGreatDoor
open Go.RowKit Go.Deep
set_option maxRecDepth 100000

theorem At12.grown {w w' : World} {b : Nat} {t u v : Tm} {x : Value} (h : At12 w b t u v) (hg : w.grownBy w' x.ownBlock) (hne : x.ownBlock ≠ some b) : At12 w' b t u v := by
  obtain ⟨hl, h⟩ := h
  have e : ∀ i, w'.cell? ⟨b, i, none⟩ = w.cell? ⟨b, i, none⟩ := fun i => World.cell?_of_block (hg.block b hl (fun q => hne q.symm))
  refine ⟨Nat.lt_of_lt_of_le hl hg.size, ?_⟩
  simp only [e]
  exact h
theorem Own8.off {w : World} {B n b : Nat} {v : Value} {bs : List Int} (h : Own8 w B v n bs) (hb : w.heap.size ≤ b) : v.ownBlock ≠ some b := fun e => by
  have := (h.2 b e).2
  omega
theorem l1show_tm (t : Tm) (bs : List Int) (w : World) (hB : Bs w t.a t.len bs) (hok : termOk t.k bs t.n t.s = true) :
    Calls Tryz.prog 34 #[.agg #[.int .i64 t.k, .slice t.a t.len t.cap, .int .i64 t.n, .int .i64 t.s]] w fun e w' => DigRes w (t.show bs) e w' := l1show_any t.k t.n t.s t.a t.len t.cap bs w hB hok

set_option maxHeartbeats 4000000 in
theorem l2text_any (a : Option Addr) (n cap : Nat) (T U V : Nat → Tm) (bt bu bv : Nat → List Int) (w : World) (hn : n ≤ 60) (hR : Rows w a n T U V) (h1 : Texts w n T bt) (h2 : Texts w n U bu) (h3 : Texts w n V bv) (hok : ∀ i, i < n → TOk T U V bt bu bv i) :
    Calls Tryz.prog 21 #[.agg #[.slice a n cap]] w fun e w' => TxRes w (linesL T U V bt bu bv n) e w' := by
  by_cases hn0 : n = 0
  · subst hn0
    clear hR h1 h2 h3 hok
    go_enter Tryz.func21, Tryz.ntmps21
    go_wp2
    refine wp_loop_rounds 1 ?_
    rw [rounds_succ]
    go_wp2
    go_ret
    exact ⟨none, 0, rfl, Nw.nil _ _, bl_a _⟩
  obtain ⟨b, off, rfl, hlt, hc⟩ := hR.resolve_left hn0
  have HC : Hid (∀ i, i < n → Row12 w b (off + i * 12) (T i) (U i) (V i)) := hc
  have H1 : Hid (Texts w n T bt) := h1
  have H2 : Hid (Texts w n U bu) := h2
  have H3 : Hid (Texts w n V bv) := h3
  have HOK : Hid (∀ i, i < n → TOk T U V bt bu bv i) := hok
  have HX : Hid (∀ wr, Below (w.heap.size + 1) (w.alloc (.cells #[.slice (some ⟨b, off, none⟩) n cap] 25)) wr → wr.cell? ⟨w.heap.size, 0, none⟩ = some (.slice (some ⟨b, off, none⟩) n cap)) := fun wr h => (h.cell (p := ⟨w.heap.size, 0, none⟩) (Nat.lt_succ_self _)).trans (by simp [go_sem])
  have HW : Hid (∀ wr, Below (w.heap.size + 1) (w.alloc (.cells #[.slice (some ⟨b, off, none⟩) n cap] 25)) wr → Below w.heap.size w wr) := fun wr h => (bl_a (w := w) _).trans (h.mono (Nat.le_succ _))
  have HSZ : Hid (∀ wr, Below (w.heap.size + 1) (w.alloc (.cells #[.slice (some ⟨b, off, none⟩) n cap] 25)) wr → (w.heap.size + 1) ≤ wr.heap.size) := fun wr h => Nat.le_trans (by simp) h.size
  have HLEN : Hid (∀ k, k ≤ n → (linesL T U V bt bu bv k).length ≤ k * 200) := fun k hk => linesL_len k (fun j hj => hok j (by omega))
  have HBY : Hid (Byt (linesL T U V bt bu bv n)) := linesL_byt n (fun i hi => (h1 i hi).byt) (fun i hi => (h2 i hi).byt) (fun i hi => (h3 i hi).byt)
  clear hR hc h1 h2 h3 hok
  go_enter Tryz.func21, Tryz.ntmps21
  go_wp2_with fail
  go_loopw [3, 4] (fun x i wr => ∃ (k N : Nat) (v : Value), k ≤ n ∧ i = .int .i64 k ∧ v = x ∧ N ≤ 12000 ∧ Hid (Own8 wr (w.heap.size + 1) v N (linesL T U V bt bu bv k)) ∧ Hid (Below (w.heap.size + 1) (w.alloc (.cells #[.slice (some ⟨b, off, none⟩) n cap] 25)) wr))
    (fun _ i _ => n - (intOf i).toNat)
  case atStart => exact ⟨0, 0, _, Nat.zero_le _, rfl, rfl, by omega, Own8.nil _ _, Below.refl _ _⟩
  case round =>
    obtain ⟨k, N, v, hk, rfl, rfl, hN, HO, HB⟩ := hrel
    have hbox := HX.out wr HB.out
    by_cases hlk : k < n
    · have hx := (HC.out k hlk).of_block ((HW.out wr HB.out).block b hlt)
      obtain ⟨ok1, ok2, ok3⟩ := HOK.out k hlk
      have hl1 := Tm.show_len ok1
      have hl2 := Tm.show_len ok2
      have hl3 := Tm.show_len ok3
      have S1 := fun (w' : World) (hq : Below (w.heap.size + 1) (w.alloc (.cells #[.slice (some ⟨b, off, none⟩) n cap] 25)) w') => l1show_tm (T k) (bt k) w' ((H1.out k hlk).below (HW.out w' hq)) ok1
      have S2 := fun (w' : World) (hq : Below (w.heap.size + 1) (w.alloc (.cells #[.slice (some ⟨b, off, none⟩) n cap] 25)) w') => l1show_tm (U k) (bu k) w' ((H2.out k hlk).below (HW.out w' hq)) ok2
      have S3 := fun (w' : World) (hq : Below (w.heap.size + 1) (w.alloc (.cells #[.slice (some ⟨b, off, none⟩) n cap] 25)) w') => l1show_tm (V k) (bv k) w' ((H3.out k hlk).below (HW.out w' hq)) ok3
      have HL1 : Hid (linesL T U V bt bu bv (k + 1) = linesL T U V bt bu bv k ++ lineL (T k) (U k) (V k) (bt k) (bu k) (bv k)) := rfl
      have hNk : N + 200 ≤ 12000 := by
        have e1 := HO.out.len
        have e2 := HLEN.out k hk
        omega
      unfold lineL at HL1
      generalize (T k).show (bt k) = L1 at *
      generalize (U k).show (bu k) = L2 at *
      generalize (V k).show (bv k) = L3 at *
      clear ok1 ok2 ok3
      have hne : v.ownBlock ≠ some wr.heap.size := HO.out.off (Nat.le_refl _)
      have hB1 : Below (w.heap.size + 1) (w.alloc (.cells #[.slice (some ⟨b, off, none⟩) n cap] 25)) (wr.alloc (.cells (cells12 (T k) (U k) (V k)) 45)) := HB.out.alloc (HSZ.out _ HB.out) _
      have HA1 : Hid (At12 (wr.alloc (.cells (cells12 (T k) (U k) (V k)) 45)) wr.heap.size (T k) (U k) (V k)) := (Own12.at wr _ _ _ _ _ rfl).1
      have HO1 : Hid (Own8 (wr.alloc (.cells (cells12 (T k) (U k) (V k)) 45)) (w.heap.size + 1) v N (linesL T U V bt bu bv k)) := HO.out.below (bl_a _)
      obtain ⟨⟨x0, x1, x2, x3⟩, ⟨x4, x5, x6, x7⟩, ⟨x8, x9, xa, xb⟩⟩ := hx
      go_wp2_with fail
      refine (S1 _ hB1).mono ?_
      rintro e w2 ⟨g2, c2, rfl, hr2, hb2⟩
      clear x0 x1 x2 x3 x4 x5 x6 x7 x8 x9 xa xb S1
      have HB2 : Hid (Below (w.heap.size + 1) (w.alloc (.cells #[.slice (some ⟨b, off, none⟩) n cap] 25)) w2) := hB1.trans (hb2.mono (HSZ.out _ hB1))
      have HA2 : Hid (At12 w2 wr.heap.size (T k) (U k) (V k)) := HA1.out.below hb2
      have HO2 : Hid (w2.ownsRow (w.heap.size + 1) 5 1 v N ((linesL T U V bt bu bv k).map (Value.int .u8))) := (HO1.out.below hb2).1
      have HN2 : Hid (∀ j u, (L1.map (Value.int .u8))[j]? = some u → w2.cell? ((⟨g2, 0, none⟩ : Addr).add j) = some u) := hr2.news
      have hs2 := HSZ.out _ HB2.out
      clear hB1 HA1 HO1 hr2 hb2 HO
      go_wp2_with (first
        | (refine app8 rfl (.tmp 18) (.tmp 21) rfl (w.heap.size + 1) v N (linesL T U V bt bu bv k) rfl HO2 ⟨g2, 0, none⟩ L1.length _ L1 rfl rfl HN2 (by omega) (N + L1.length) rfl (linesL T U V bt bu bv k ++ L1) rfl (by omega) hs2 ?_; intro g3 c3 w3 HR3 hgx hax HBx; have hne3 : g3 ≠ wr.heap.size := away hax.out hne HA2.out.1; have HA3 := HA2.out.grown hgx.out hne; have HB3 : Hid (Below (w.heap.size + 1) (w.alloc (.cells #[.slice (some ⟨b, off, none⟩) n cap] 25)) w3) := HB2.out.trans HBx.out; clear hgx hax HBx HN2 HO2 hs2 HB2 HA2 hne; have HO3 := (HR3.out.below (bl_a (.cells #[.int .u8 32] 5))).own; have HN3 : Hid (∀ j u, (([32] : List Int).map (Value.int .u8))[j]? = some u → (w3.alloc (.cells #[.int .u8 32] 5)).cell? ((⟨w3.heap.size, 0, none⟩ : Addr).add j) = some u) := one_news w3 32; have HA3a : Hid (At12 (w3.alloc (.cells #[.int .u8 32] 5)) wr.heap.size (T k) (U k) (V k)) := HA3.below (bl_a _); have HB3a : Hid (Below (w.heap.size + 1) (w.alloc (.cells #[.slice (some ⟨b, off, none⟩) n cap] 25)) (w3.alloc (.cells #[.int .u8 32] 5))) := HB3.out.alloc (HSZ.out _ HB3.out) _; have hs3 := HSZ.out _ HB3a.out; have hne := own_ne (n := N + L1.length) (c := c3) hne3; clear HR3 HA3 HB3)
        | (refine app8 rfl (.tmp 22) (.tmp 23) rfl (w.heap.size + 1) (.slice (some ⟨g3, 0, none⟩) (N + L1.length) c3) (N + L1.length) (linesL T U V bt bu bv k ++ L1) rfl HO3 ⟨w3.heap.size, 0, none⟩ 1 1 [32] rfl rfl HN3 (by omega) (N + L1.length + 1) rfl (linesL T U V bt bu bv k ++ L1 ++ [32]) rfl (by omega) hs3 ?_; intro g4 c4 w4 HR4 hgx hax HBx; have hne4 : g4 ≠ wr.heap.size := away hax.out hne HA3a.out.1; have HA4 := HA3a.out.grown hgx.out hne; have HB4 : Hid (Below (w.heap.size + 1) (w.alloc (.cells #[.slice (some ⟨b, off, none⟩) n cap] 25)) w4) := HB3a.out.trans HBx.out; clear hgx hax HBx HN3 HO3 hs3 HB3a HA3a hne hne3; obtain ⟨y0, ⟨x0, x1, x2, x3⟩, ⟨x4, x5, x6, x7⟩, ⟨x8, x9, xa, xb⟩⟩ := id HA4))
      refine (S2 _ HB4.out).mono ?_
      rintro e w5 ⟨g5, c5, rfl, hr5, hb5⟩
      clear x0 x1 x2 x3 x4 x5 x6 x7 x8 x9 xa xb S2 y0
      have HB5 : Hid (Below (w.heap.size + 1) (w.alloc (.cells #[.slice (some ⟨b, off, none⟩) n cap] 25)) w5) := HB4.out.trans (hb5.mono (HSZ.out _ HB4.out))
      have HA5 : Hid (At12 w5 wr.heap.size (T k) (U k) (V k)) := HA4.below hb5
      have HO5 := (HR4.out.below hb5).own
      have HN5 : Hid (∀ j u, (L2.map (Value.int .u8))[j]? = some u → w5.cell? ((⟨g5, 0, none⟩ : Addr).add j) = some u) := hr5.news
      have hs5 := HSZ.out _ HB5.out
      have hne := own_ne (n := N + L1.length + 1) (c := c4) hne4
      clear hr5 hb5 HR4 HB4 HA4
      go_wp2_with (first
        | (refine app8 rfl (.tmp 25) (.tmp 28) rfl (w.heap.size + 1) (.slice (some ⟨g4, 0, none⟩) (N + L1.length + 1) c4) (N + L1.length + 1) (linesL T U V bt bu bv k ++ L1 ++ [32]) rfl HO5 ⟨g5, 0, none⟩ L2.length _ L2 rfl rfl HN5 (by omega) (N + L1.length + 1 + L2.length) rfl (linesL T U V bt bu bv k ++ L1 ++ [32] ++ L2) rfl (by omega) hs5 ?_; intro g6 c6 w6 HR6 hgx hax HBx; have hne6 : g6 ≠ wr.heap.size := away hax.out hne HA5.out.1; have HA6 := HA5.out.grown hgx.out hne; have HB6 : Hid (Below (w.heap.size + 1) (w.alloc (.cells #[.slice (some ⟨b, off, none⟩) n cap] 25)) w6) := HB5.out.trans HBx.out; clear hgx hax HBx HN5 HO5 hs5 HB5 HA5 hne hne4; have HO6 := (HR6.out.below (bl_a (.cells #[.int .u8 32] 5))).own; have HN6 : Hid (∀ j u, (([32] : List Int).map (Value.int .u8))[j]? = some u → (w6.alloc (.cells #[.int .u8 32] 5)).cell? ((⟨w6.heap.size, 0, none⟩ : Addr).add j) = some u) := one_news w6 32; have HA6a : Hid (At12 (w6.alloc (.cells #[.int .u8 32] 5)) wr.heap.size (T k) (U k) (V k)) := HA6.below (bl_a _); have HB6a : Hid (Below (w.heap.size + 1) (w.alloc (.cells #[.slice (some ⟨b, off, none⟩) n cap] 25)) (w6.alloc (.cells #[.int .u8 32] 5))) := HB6.out.alloc (HSZ.out _ HB6.out) _; have hs6 := HSZ.out _ HB6a.out; have hne := own_ne (n := N + L1.length + 1 + L2.length) (c := c6) hne6; clear HR6 HA6 HB6)
        | (refine app8 rfl (.tmp 29) (.tmp 30) rfl (w.heap.size + 1) (.slice (some ⟨g6, 0, none⟩) (N + L1.length + 1 + L2.length) c6) (N + L1.length + 1 + L2.length) (linesL T U V bt bu bv k ++ L1 ++ [32] ++ L2) rfl HO6 ⟨w6.heap.size, 0, none⟩ 1 1 [32] rfl rfl HN6 (by omega) (N + L1.length + 1 + L2.length + 1) rfl (linesL T U V bt bu bv k ++ L1 ++ [32] ++ L2 ++ [32]) rfl (by omega) hs6 ?_; intro g7 c7 w7 HR7 hgx hax HBx; have hne7 : g7 ≠ wr.heap.size := away hax.out hne HA6a.out.1; have HA7 := HA6a.out.grown hgx.out hne; have HB7 : Hid (Below (w.heap.size + 1) (w.alloc (.cells #[.slice (some ⟨b, off, none⟩) n cap] 25)) w7) := HB6a.out.trans HBx.out; clear hgx hax HBx HN6 HO6 hs6 HB6a HA6a hne hne6; obtain ⟨y0, ⟨x0, x1, x2, x3⟩, ⟨x4, x5, x6, x7⟩, ⟨x8, x9, xa, xb⟩⟩ := id HA7))
      refine (S3 _ HB7.out).mono ?_
      rintro e w8 ⟨g8, c8, rfl, hr8, hb8⟩
      clear x0 x1 x2 x3 x4 x5 x6 x7 x8 x9 xa xb S3 y0 hne7
      have HB8 : Hid (Below (w.heap.size + 1) (w.alloc (.cells #[.slice (some ⟨b, off, none⟩) n cap] 25)) w8) := HB7.out.trans (hb8.mono (HSZ.out _ HB7.out))
      have HO8 := (HR7.out.below hb8).own
      have HN8 : Hid (∀ j u, (L3.map (Value.int .u8))[j]? = some u → w8.cell? ((⟨g8, 0, none⟩ : Addr).add j) = some u) := hr8.news
      have hs8 := HSZ.out _ HB8.out
      clear hr8 hb8 HR7 HB7 HA7
      go_wp2_with (first
        | (refine app8 rfl (.tmp 32) (.tmp 35) rfl (w.heap.size + 1) (.slice (some ⟨g7, 0, none⟩) (N + L1.length + 1 + L2.length + 1) c7) (N + L1.length + 1 + L2.length + 1) (linesL T U V bt bu bv k ++ L1 ++ [32] ++ L2 ++ [32]) rfl HO8 ⟨g8, 0, none⟩ L3.length _ L3 rfl rfl HN8 (by omega) (N + L1.length + 1 + L2.length + 1 + L3.length) rfl (linesL T U V bt bu bv k ++ L1 ++ [32] ++ L2 ++ [32] ++ L3) rfl (by omega) hs8 ?_; intro g9 c9 w9 HR9 _ _ HBx; have HB9 : Hid (Below (w.heap.size + 1) (w.alloc (.cells #[.slice (some ⟨b, off, none⟩) n cap] 25)) w9) := HB8.out.trans HBx.out; clear HBx HN8 HO8 hs8 HB8; have HO9 : Hid (Own8 w9 (w.heap.size + 1) (.slice (some ⟨g9, 0, none⟩) (N + L1.length + 1 + L2.length + 1 + L3.length) c9) (N + L1.length + 1 + L2.length + 1 + L3.length) (linesL T U V bt bu bv k ++ L1 ++ [32] ++ L2 ++ [32] ++ L3)) := HR9.out.own8; have hs9 := HSZ.out _ HB9.out)
        | (refine app8s rfl (.tmp 36) (.const (.string ⟨#[32, 46, 10]⟩)) rfl (w.heap.size + 1) (.slice (some ⟨g9, 0, none⟩) (N + L1.length + 1 + L2.length + 1 + L3.length) c9) (N + L1.length + 1 + L2.length + 1 + L3.length) (linesL T U V bt bu bv k ++ L1 ++ [32] ++ L2 ++ [32] ++ L3) rfl HO9 ⟨#[32, 46, 10]⟩ rfl (by decide) (N + L1.length + 1 + L2.length + 1 + L3.length + 3) rfl (linesL T U V bt bu bv k ++ L1 ++ [32] ++ L2 ++ [32] ++ L3 ++ [32, 46, 10]) rfl (by omega) hs9 ?_; intro g10 c10 w10 HR10 HBx; have HB10 : Hid (Below (w.heap.size + 1) (w.alloc (.cells #[.slice (some ⟨b, off, none⟩) n cap] 25)) w10) := HB9.out.trans HBx.out; clear HBx HO9 hs9 HB9))
      go_roundw
      case rel =>
        refine ⟨k + 1, N + L1.length + 1 + L2.length + 1 + L3.length + 3, _, by omega, by go_num, rfl, by omega, ?_, HB10⟩
        show Own8 _ _ _ _ _
        have h := HR10.out.own8
        rw [HL1.out]
        simpa using h
      case measure => simp [intOf]; omega
    · obtain rfl : k = n := by omega
      have HL := HLEN.out k (Nat.le_refl _)
      obtain ⟨a', cp, rfl, hnw⟩ := HO.out.nw HBY.out (by omega)
      have hlen := HO.out.len
      have HNW : Hid (Nw wr (w.heap.size + 1) a' N (linesL T U V bt bu bv k)) := hnw
      have HLN : Hid ((linesL T U V bt bu bv k).length = N) := hlen
      clear hnw hlen
      go_wp2_with fail
      go_ret
      refine ⟨a', cp, by rw [HLN.out]; rfl, ?_, HW.out _ HB.out⟩
      rw [HLN.out]
      exact HNW.out.mono (Nat.le_succ _)
end Go.Proofs.YtiodiooaaojbhaaGreatDoor
