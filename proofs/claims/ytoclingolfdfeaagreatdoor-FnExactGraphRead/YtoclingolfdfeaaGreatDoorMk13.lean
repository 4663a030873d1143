/- Texts put together: RdL RdM RdN -/
import Derived.Test.YtoclingolfdfeaaGreatDoorMk12
import Derived.Shelf.Abstract
import Derived.Shelf.RegionOpen
/- RdL -/
namespace Go.Proofs.YtoclingolfdfeaaGreatDoor
open Go.RowKit Go.Deep
set_option maxRecDepth 100000

/-- A token's bytes are what the text begins with. -/
theorem tokOf_raw {l : List Int} {t : PT} (h : tokOf l = some t) : 1 ≤ t.raw.length ∧ t.raw.length ≤ l.length ∧ l.take t.raw.length = t.raw := by
  cases l with
  | nil => cases h
  | cons b r =>
    have hp := pieceLen_le r
    have pre : ∀ m, m ≤ r.length → 1 ≤ (b :: r.take m).length ∧ (b :: r.take m).length ≤ (b :: r).length ∧ (b :: r).take (b :: r.take m).length = b :: r.take m := fun m hm => by
      have e : (r.take m).length = m := by rw [List.length_take]; omega
      refine ⟨by simp, by simp; omega, ?_⟩
      rw [List.length_cons, List.take_succ_cons, e]
    rw [tokOf] at h
    split at h
    · obtain ⟨q, _, rfl⟩ := Option.map_eq_some_iff.1 h
      exact pre _ hp
    split at h
    · rename_i c
      simp only [Bool.and_eq_true, beq_iff_eq] at c
      obtain ⟨⟨rfl, _⟩, hg⟩ := c
      simp only [Option.some.injEq] at h
      subst h
      have hlt : pieceLen r < r.length := by
        apply Nat.lt_of_not_le
        intro hle
        rw [List.drop_of_length_le hle] at hg
        cases hg
      have e : r.take (pieceLen r) ++ [62] = r.take (pieceLen r + 1) := by
        rw [List.take_add_one]
        rw [List.getElem?_drop, Nat.add_zero] at hg
        rw [hg]
        rfl
      simp only [e]
      exact pre _ (by omega)
    split at h
    · rename_i c
      subst c
      obtain ⟨⟨tx, m⟩, hq, h2⟩ := Option.bind_eq_some_iff.1 h
      split at h2
      · simp only [Option.some.injEq] at h2
        subst h2
        exact pre _ (quoteF_le r tx m hq)
      · cases h2
    split at h
    · rename_i c
      simp only [Bool.and_eq_true, beq_iff_eq] at c
      obtain ⟨rfl, hg⟩ := c
      obtain ⟨q, _, rfl⟩ := Option.map_eq_some_iff.1 h
      cases r with
      | nil => cases hg
      | cons x r =>
        have : x = 58 := by simpa using hg
        subst this
        have hp2 := pieceLen_le r
        simp only [List.drop_succ_cons, List.drop_zero]
        have e : (58 :: r.take (pieceLen r) : List Int) = (58 :: r).take (pieceLen r + 1) := by rw [List.take_succ_cons]
        rw [e]
        exact pre _ (by simp; omega)
    split at h
    · rename_i c
      simp only [Bool.and_eq_true, beq_iff_eq] at c
      obtain ⟨rfl, _⟩ := c
      simp only [Option.some.injEq] at h
      subst h
      exact pre _ hp
    split at h
    · rename_i c
      simp only [Option.some.injEq] at h
      subst h
      have hg := greatLen_le r
      rw [greatLen, if_pos c, List.take_succ_cons]
      exact pre _ hg
    split at h
    · simp only [Option.some.injEq] at h
      subst h
      exact pre 0 (by omega)
    · cases h

/-- All tokens, each with its place; or the place where there is none. -/
def lexF : Nat → List Int → Nat → Except Nat (List (Nat × PT))
  | 0, _, _ => .ok []
  | _ + 1, [], _ => .ok []
  | f + 1, b :: r, p => if gapB b = true then lexF f r (p + 1) else
      match tokOf (b :: r) with
      | none => .error p
      | some t => (lexF f ((b :: r).drop t.raw.length) (p + t.raw.length)).map ((p, t) :: ·)
theorem lexF_fuel : ∀ (f g : Nat) (l : List Int) (p : Nat), l.length ≤ f → l.length ≤ g → lexF f l p = lexF g l p
  | 0, 0, _, _, _, _ => rfl
  | 0, g + 1, [], _, _, _ => rfl
  | 0, g + 1, b :: r, _, h, _ => by simp at h
  | f + 1, 0, [], _, _, _ => rfl
  | f + 1, 0, b :: r, _, _, h => by simp at h
  | f + 1, g + 1, [], _, _, _ => rfl
  | f + 1, g + 1, b :: r, p, h1, h2 => by
    simp only [List.length_cons] at h1 h2
    rw [lexF, lexF, lexF_fuel f g r (p + 1) (by omega) (by omega)]
    cases ht : tokOf (b :: r) with
    | none => rfl
    | some t =>
      have hr := tokOf_raw ht
      have hl : ((b :: r).drop t.raw.length).length ≤ r.length := by rw [List.length_drop, List.length_cons]; omega
      simp only
      rw [lexF_fuel f g ((b :: r).drop t.raw.length) (p + t.raw.length) (by omega) (by omega)]
def lexR (l : List Int) (p : Nat) : Except Nat (List (Nat × PT)) := lexF l.length l p
theorem lexR_nil (p : Nat) : lexR [] p = .ok [] := rfl
theorem lexR_gap {b : Int} {r : List Int} (p : Nat) (h : gapB b = true) : lexR (b :: r) p = lexR r (p + 1) := by
  unfold lexR
  rw [List.length_cons, lexF, if_pos h]
theorem lexR_bad {b : Int} {r : List Int} (p : Nat) (h : gapB b = false) (ht : tokOf (b :: r) = none) : lexR (b :: r) p = .error p := by
  unfold lexR
  rw [List.length_cons, lexF, if_neg (by rw [h]; decide), ht]
theorem lexR_tok {b : Int} {r : List Int} {t : PT} (p : Nat) (h : gapB b = false) (ht : tokOf (b :: r) = some t) : lexR (b :: r) p = (lexR ((b :: r).drop t.raw.length) (p + t.raw.length)).map ((p, t) :: ·) := by
  have hr := tokOf_raw ht
  have hl : ((b :: r).drop t.raw.length).length ≤ r.length := by rw [List.length_drop, List.length_cons]; omega
  unfold lexR
  rw [List.length_cons, lexF, if_neg (by rw [h]; decide), ht]
  simp only
  rw [lexF_fuel r.length _ _ _ hl (Nat.le_refl _)]
/-- What is there ahead of what comes. -/
def withPre (pre : List (Nat × PT)) (x : Except Nat (List (Nat × PT))) : Except Nat (List (Nat × PT)) := x.map (pre ++ ·)
theorem withPre_nil (x : Except Nat (List (Nat × PT))) : withPre [] x = x := by cases x <;> rfl
theorem withPre_map (pre : List (Nat × PT)) (y : Nat × PT) (x : Except Nat (List (Nat × PT))) : withPre pre (x.map (y :: ·)) = withPre (pre ++ [y]) x := by
  cases x with
  | error e => rfl
  | ok l =>
    show Except.ok (pre ++ (y :: l)) = Except.ok (pre ++ [y] ++ l)
    simp
end Go.Proofs.YtoclingolfdfeaaGreatDoor

/- RdM -/
namespace Go.Proofs.YtoclingolfdfeaaGreatDoor
open Go.RowKit Go.Deep Go.Shelf
set_option maxRecDepth 100000
attribute [local go_sem] Oper.semAt_some

/-- All blocks but r, l and the row are as they were. -/
structure KeptK (r l : Nat) (row : Option Nat) (w w' : World) : Prop where
  size : w.heap.size ≤ w'.heap.size
  block : ∀ b, b < w.heap.size → b ≠ r → b ≠ l → some b ≠ row → w'.heap[b]? = w.heap[b]?
theorem KeptK.cell {r l : Nat} {row : Option Nat} {w w' : World} (h : KeptK r l row w w') {b o : Nat} (h1 : b < w.heap.size) (h2 : b ≠ r) (h3 : b ≠ l) (h4 : some b ≠ row) : w'.cell? ⟨b, o, none⟩ = w.cell? ⟨b, o, none⟩ := World.cell?_of_block (w := w) (a := ⟨b, o, none⟩) (h.block b h1 h2 h3 h4)
/-- Where a token's text lies. -/
def TV.blk (x : TV) : Option Nat := x.t.t.a.map (·.block)
def Apart (x y : TV) : Prop := ∀ g g', x.blk = some g → y.blk = some g' → g ≠ g'
/-- A reader while it is filled. -/
structure RS (w0 : World) (rb rd : Nat) (n : Int) (W : World) (v : Value) (L : List TV) : Prop where
  box : W.cell? ⟨rb, 0, none⟩ = some (.pointer (some ⟨rd, 0, none⟩))
  r0 : W.cell? ⟨rd, 0, none⟩ = some v
  r1 : W.cell? ⟨rd, 1, none⟩ = some (.int .i64 0)
  r2 : W.cell? ⟨rd, 2, none⟩ = some (.int .i64 n)
  f0 : W.frozen? ⟨rd, 0, none⟩ = false
  f1 : W.frozen? ⟨rd, 1, none⟩ = false
  lb : rb < W.heap.size
  ld : rd < W.heap.size
  ne : rb ≠ rd
  nb : some rb ≠ v.ownBlock
  nd : some rd ≠ v.ownBlock
  emp : L = [] → v.ownBlock = none
  hd : w0.heap.size ≤ rd
  own : OwnK W w0.heap.size v L
  txt : ∀ x ∈ L, Nw W w0.heap.size x.t.t.a x.t.t.len x.t.b
  sep : L.Pairwise Apart
  bel : Below w0.heap.size w0 W
theorem RS.below {w0 W W' : World} {rb rd : Nat} {n : Int} {v : Value} {L : List TV} (h : RS w0 rb rd n W v L) (hb : Below W.heap.size W W') : RS w0 rb rd n W' v L :=
  ⟨(hb.cell (p := ⟨rb, 0, none⟩) h.lb).trans h.box, (hb.cell (p := ⟨rd, 0, none⟩) h.ld).trans h.r0, (hb.cell (p := ⟨rd, 1, none⟩) h.ld).trans h.r1, (hb.cell (p := ⟨rd, 2, none⟩) h.ld).trans h.r2, (hb.frozen (p := ⟨rd, 0, none⟩) h.ld).trans h.f0, (hb.frozen (p := ⟨rd, 1, none⟩) h.ld).trans h.f1,
   Nat.lt_of_lt_of_le h.lb hb.size, Nat.lt_of_lt_of_le h.ld hb.size, h.ne, h.nb, h.nd, h.emp, h.hd, h.own.below hb, fun x hx => (h.txt x hx).below hb, h.sep, h.bel.trans (hb.mono (Nat.le_trans h.hd (Nat.le_of_lt h.ld)))⟩
/-- A text's block is there. -/
theorem nw_lt {W : World} {B len : Nat} {a : Option Addr} {bs : List Int} (h : Nw W B a len bs) {g : Nat} (hg : a.map (·.block) = some g) : B ≤ g ∧ g < W.heap.size := by
  rcases h with ⟨rfl, _, _⟩ | ⟨c, rfl, hB, ho⟩
  · cases hg
  · have : c = g := by simpa using hg
    subst this
    exact ⟨hB, ho.2.1⟩
/-- .. and with the loop's own records. -/
structure RJ (w0 : World) (rb rd tb l D : Nat) (rec : Loop) (n : Int) (s : ByteArray) (W : World) (v : Value) (L : List TV) : Prop where
  rs : RS w0 rb rd n W v L
  lp : W.heap[l]? = some (.loop rec)
  df : W.heap[D]? = some (.deferred (some []))
  tx : W.cell? ⟨tb, 0, none⟩ = some (.string s)
  tl : tb < W.heap.size
  tn : tb ≠ rd
  tr : some tb ≠ v.ownBlock
theorem RJ.below {w0 W W' : World} {rb rd tb l D : Nat} {rec : Loop} {n : Int} {s : ByteArray} {v : Value} {L : List TV} (h : RJ w0 rb rd tb l D rec n s W v L) (hb : Below W.heap.size W W') : RJ w0 rb rd tb l D rec n s W' v L :=
  ⟨h.rs.below hb, (hb.block l (Array.getElem?_eq_some_iff.1 h.lp).1).trans h.lp, (hb.block D (Array.getElem?_eq_some_iff.1 h.df).1).trans h.df, (hb.cell (p := ⟨tb, 0, none⟩) h.tl).trans h.tx, Nat.lt_of_lt_of_le h.tl hb.size, h.tn, h.tr⟩

/-- What the iterator comes to. -/
def IterRes (w0 : World) (rb rd tb l D : Nat) (rec : Loop) (n : Int) (s : ByteArray) (e : Ending) (W' : World) : Prop :=
  (∃ v L, RJ w0 rb rd tb l D rec n s W' v L ∧ lexR (numsOf s) 0 = .ok (L.map TV.pt) ∧ e = .returned (.tuple #[])) ∨ (∃ v L p, RJ w0 rb rd tb l D rec n s W' v L ∧ lexR (numsOf s) 0 = .error p ∧ e = refused 2 p)
/-- What a round does. -/
def RoundOk (w0 : World) (rb rd tb l D : Nat) (rec : Loop) (n : Int) (s : ByteArray) (m : Nat) : Prop :=
  ∀ (L : List TV) (x : TV) (v : Value) (W : World), RJ w0 rb rd tb l D rec n s W v L → L.length ≤ 1048576 → Nw W w0.heap.size x.t.t.a x.t.t.len x.t.b → (∀ y ∈ L, Apart y x) →
    YieldAt Fence.wide m Tryz.prog l #[.agg (e7 x).toArray] W fun e W' => e = .returned (.bool true) ∧ ∃ v', RJ w0 rb rd tb l D rec n s W' v' (L ++ [x]) ∧ KeptK rd l v.ownBlock W W'

theorem Tab.below2 {w0 w : World} (h : Tab w0) (hb : Below w0.heap.size w0 w) : Tab w := h.below hb
theorem Errs.below2 {w0 w : World} (h : Errs w0) (hb : Below w0.heap.size w0 w) : Errs w := h.below hb
set_option maxHeartbeats 4000000 in
theorem tokIter (w0 W : World) (rb rd tb l D : Nat) (rec : Loop) (n : Int) (s : ByteArray) (hs : s.size ≤ 1048576) (hT : Tab w0) (hE : Errs w0) (m : Nat) (hY : RoundOk w0 rb rd tb l D rec n s (m - 1)) (h0 : RJ w0 rb rd tb l D rec n s W (.slice none 0 0) []) :
    CallsIn Fence.wide m Tryz.prog 95 #[.func (.yield l) #[] #[], .pointer (some ⟨tb, 0, none⟩)] W (IterRes w0 rb rd tb l D rec n s) := by
  have HY : Hid (RoundOk w0 rb rd tb l D rec n s (m - 1)) := hY
  have HT : Hid (Tab w0) := hT
  have HE : Hid (Errs w0) := hE
  have H0 : Hid (RJ w0 rb rd tb l D rec n s W (.slice none 0 0) []) := h0
  clear hY hT hE h0
  refine callsIn_of_wp Tryz.func95 rfl trivial ?_ rfl
  simp only [Tryz.ntmps95, List.size_toArray, List.length_cons, List.length_nil, Nat.reduceAdd, Nat.reduceSub, Array.replicate_succ, Array.replicate_zero, List.push_toArray, List.append_toArray, List.nil_append, List.cons_append]
  gi_wp2
  gi_loopw [3] (fun i wr => ∃ (k : Nat) (v : Value) (L : List TV), k ≤ s.size ∧ i = .int .i64 k ∧ Hid (RJ w0 rb rd tb l D rec n s wr v L) ∧ Hid (L.length ≤ k) ∧ Hid (withPre (L.map TV.pt) (lexR ((numsOf s).drop k) k) = lexR (numsOf s) 0))
    (fun i _ => s.size - (intOf i).toNat)
  case atStart => exact ⟨0, _, [], Nat.zero_le _, rfl, H0, Nat.zero_le _, by show _ = _; rw [List.map_nil, withPre_nil, List.drop_zero]⟩
  case round =>
    obtain ⟨k, v, L, hk, rfl, HJ, HL, HX⟩ := hrel
    clear H0
    have hx := HJ.out.tx
    by_cases hlt : k < s.size
    · have HD : Hid ((numsOf s).drop k = ((s[k].toNat : Nat) : Int) :: (numsOf s).drop (k + 1)) := nums_drop s k hlt
      generalize hb : ((s[k].toNat : Nat) : Int) = b at *
      have TA := tokenAt_any s k wr hlt hs (HT.out.below2 HJ.out.rs.bel) (HE.out.below2 HJ.out.rs.bel)
      have HR : ∀ t, tokOf ((numsOf s).drop k) = some t → Hid (1 ≤ t.raw.length ∧ k + t.raw.length ≤ s.size) := fun t ht => by
        have := tokOf_raw ht
        rw [List.length_drop, numsOf_len] at this
        exact ⟨this.1, by omega⟩
      cases hg : gapB b
      · gi_wp2
        refine ⟨trivial, fun hz => Bool.noConfusion hz, ?_⟩
        refine (callsIn_wide.2 (gap_any _ _)).mono ?_
        rintro e w1 ⟨rfl, hw1⟩
        subst w1
        rw [hg]
        gi_wp2
        refine ⟨trivial, fun hz => Bool.noConfusion hz, ?_⟩
        refine (callsIn_wide.2 TA).mono ?_
        cases ht : tokOf ((numsOf s).drop k) with
        | none =>
          rintro e w1 ⟨hb1, rfl⟩
          have HB1 : Hid (Below wr.heap.size wr w1) := hb1
          clear TA hb1
          unfold refused
          gi_wp2
          refine ⟨rfl, .inr ⟨v, L, k, HJ.out.below HB1.out, ?_, rfl⟩⟩
          rw [← HX.out, HD.out, lexR_bad k hg (by rw [← HD.out]; exact ht)]
          rfl
        | some t =>
          rintro e w1 ⟨hb1, raw, a, len, cap, rfl, hraw, hnw⟩
          obtain ⟨hr1, hr2⟩ := (HR t ht).out
          obtain ⟨x, hxx⟩ : ∃ x : TV, x = ⟨t.kind, k, raw, ⟨⟨t.td.k, a, len, cap, t.td.n, t.td.s⟩, t.td.bs⟩⟩ := ⟨_, rfl⟩
          have hpt : x.pt = (k, t) := by rw [hxx]; show (k, (⟨t.kind, numsOf raw, ⟨t.td.k, t.td.bs, t.td.n, t.td.s⟩⟩ : PT)) = _; rw [hraw]
          have HJ2 : Hid (RJ w0 rb rd tb l D rec n s (w1.alloc (.cells (e7 x).toArray 98)) v L) := HJ.out.below (bl_trans hb1 (bl_a _))
          have hnw2 : Nw (w1.alloc (.cells (e7 x).toArray 98)) w0.heap.size x.t.t.a x.t.t.len x.t.b := by
            rw [hxx]
            exact (hnw.below (bl_a _)).mono (Nat.le_trans HJ.out.rs.hd (Nat.le_of_lt HJ.out.rs.ld))
          have hap : ∀ y ∈ L, Apart y x := fun y hy g g' h1 h2 e => by
            have q1 := (nw_lt (HJ.out.rs.txt y hy) h1).2
            have q2 := (nw_lt hnw (show a.map (·.block) = some g' by rw [hxx] at h2; exact h2)).1
            omega
          obtain ⟨fn, tmps, assign, body, hy, hR⟩ := HY.out L x v _ HJ2.out (by have := HL.out; omega) hnw2 hap
          have HRn : Hid (raw.size = t.raw.length) := by show _ = _; rw [← hraw, numsOf_len]
          have HPT : Hid (x.pt = (k, t)) := hpt
          have HTK : Hid (tokOf ((numsOf s).drop k) = some t) := ht
          have hwl : w1.heap.size < (w1.alloc (.cells (e7 x).toArray 98)).heap.size := by simp
          clear TA HR ht hpt hnw hnw2 hap hraw
          unfold tokV
          subst hxx
          simp only [e7] at hy hR
          have hsz1 := hb1.size
          have HB1 : Hid (Below wr.heap.size wr w1) := hb1
          clear hb1
          gi_wp2
          refine ⟨fun hz => Bool.noConfusion hz, ?_⟩
          refine hR.mono ?_
          rintro e W3 ⟨rfl, v', hJ3, hk3⟩
          have hc3 : W3.cell? ⟨w1.heap.size, 2, none⟩ = some (.string raw) := by
            refine (hk3.cell (b := w1.heap.size) (o := 2) hwl ?_ ?_ ?_).trans (by simp [go_sem])
            · have := HJ.out.rs.ld
              omega
            · have := (Array.getElem?_eq_some_iff.1 HJ.out.lp).1
              omega
            · intro e
              have := (HJ.out.rs.own.2 _ e.symm).2
              omega
          have HJ3 : Hid (RJ w0 rb rd tb l D rec n s W3 v' (L ++ [⟨t.kind, k, raw, ⟨⟨t.td.k, a, len, cap, t.td.n, t.td.s⟩, t.td.bs⟩⟩])) := hJ3
          have hra : (raw.size : Int) = (t.raw.length : Int) := by have := HRn.out; omega
          clear hR hJ3 hk3 hy HJ2
          gi_wp2
          go_roundw
          case rel =>
            refine ⟨k + t.raw.length, v', _, hr2, by go_num, HJ3, ?_, ?_⟩
            · have := HL.out
              show _ ≤ _
              rw [List.length_append]
              simp
              omega
            · have e1 := HX.out
              have e2 := HTK.out
              show withPre (List.map TV.pt (L ++ [_])) _ = _
              rw [HD.out] at e1 e2
              rw [lexR_tok k hg e2, withPre_map, ← HD.out, List.drop_drop] at e1
              rw [List.map_append, List.map_cons, List.map_nil, HPT.out]
              exact e1
          case measure => simp [intOf]; omega
      · have HG : Hid (lexR ((numsOf s).drop k) k = lexR ((numsOf s).drop (k + 1)) (k + 1)) := by
          show _ = _
          rw [HD.out, lexR_gap _ hg]
        gi_wp2
        refine ⟨trivial, fun hz => Bool.noConfusion hz, ?_⟩
        refine (callsIn_wide.2 (gap_any _ _)).mono ?_
        rintro e w1 ⟨rfl, hw1⟩
        subst w1
        rw [hg]
        gi_wp2
        go_roundw
        case rel =>
          refine ⟨k + 1, v, L, by omega, by go_num, HJ, Nat.le_succ_of_le HL.out, ?_⟩
          have e1 := HX.out
          rw [HG.out] at e1
          exact e1
        case measure => simp [intOf]; omega
    · gi_wp2
      go_end0
      refine .inl ⟨v, L, HJ.out, ?_, rfl⟩
      rw [← HX.out, nums_end s k hlt, lexR_nil]
      show Except.ok (L.map TV.pt ++ []) = Except.ok (L.map TV.pt)
      rw [List.append_nil]
end Go.Proofs.YtoclingolfdfeaaGreatDoor

/- RdN -/
namespace Go.Proofs.YtoclingolfdfeaaGreatDoor
open Go.RowKit Go.Deep Go.Shelf
set_option maxRecDepth 100000
attribute [local go_sem] Oper.semAt_some

/-- Blocks of cells are as they were. -/
def CellsSame (W W' : World) : Prop := W.heap.size ≤ W'.heap.size ∧ ∀ (b : Nat) (o : Obj), W.heap[b]? = some o → o.isCells = true → W'.heap[b]? = some o
theorem CellsSame.cell {W W' : World} (h : CellsSame W W') {a : Addr} {v : Value} (hc : W.cell? a = some v) : W'.cell? a = some v := by
  obtain ⟨o, ho, hi⟩ := cells_of_cell hc
  rw [World.cell?_of_block (w := W) (a := a) ((h.2 a.block o ho hi).trans ho.symm)]
  exact hc
theorem CellsSame.frozen {W W' : World} (h : CellsSame W W') {a : Addr} {v : Value} (hc : W.cell? a = some v) : W'.frozen? a = W.frozen? a := by
  obtain ⟨o, ho, hi⟩ := cells_of_cell hc
  exact World.frozen?_of_block (w := W) (a := a) ((h.2 a.block o ho hi).trans ho.symm)
theorem CellsSame.putObj {W : World} {l : Nat} {o : Obj} (hl : W.heap[l]? = some o) (ho : o.isCells = false) (o' : Obj) : CellsSame W (W.putObj l o') := by
  refine ⟨by simp, fun b o1 hb hi => ?_⟩
  have hne : b ≠ l := fun e => by
    subst e
    rw [hl] at hb
    cases hb
    rw [ho] at hi
    cases hi
  exact (World.putObj_heap_other hne).trans hb
theorem nw_same {W W' : World} {B len : Nat} {a : Option Addr} {bs : List Int} (h : Nw W B a len bs) (hs : CellsSame W W') : Nw W' B a len bs := by
  rcases h with h | ⟨g, rfl, hB, ⟨h1, h2, h3, h4⟩, h5, h6, h7⟩
  · exact .inl h
  · refine .inr ⟨g, rfl, hB, ⟨h1, h2, h3, ?_⟩, Nat.lt_of_lt_of_le h5 hs.1, fun i hi => ?_, fun i hi => ?_⟩
    · rcases h4 with h4 | ⟨b, off, e, hl, hc⟩
      · exact .inl h4
      · exact .inr ⟨b, off, e, Nat.lt_of_lt_of_le hl hs.1, fun i hi => hs.cell (hc i hi)⟩
    · obtain ⟨v, hv⟩ := h6 i hi
      exact ⟨v, hs.cell hv⟩
    · obtain ⟨v, hv⟩ := h6 i hi
      rw [hs.frozen hv]
      exact h7 i hi
theorem ownK_same {W W' : World} {B : Nat} {v : Value} {L : List TV} (h : OwnK W B v L) (hs : CellsSame W W') : OwnK W' B v L := by
  refine h.same hs.1 fun g hg => ?_
  rcases h.1.2 with ⟨hv, _⟩ | ⟨g', cap', cur, hv, hB, hh, r⟩
  · rw [hv] at hg
    cases hg
  · have : g' = g := by rw [hv] at hg; simpa [Value.ownBlock] using hg
    subst this
    rw [hs.2 g' _ hh rfl, hh]
theorem RS.same {w0 W W' : World} {rb rd : Nat} {n : Int} {v : Value} {L : List TV} (h : RS w0 rb rd n W v L) (hs : CellsSame W W') (hb : Below w0.heap.size w0 W') : RS w0 rb rd n W' v L :=
  ⟨hs.cell h.box, hs.cell h.r0, hs.cell h.r1, hs.cell h.r2, (hs.frozen h.r0).trans h.f0, (hs.frozen h.r1).trans h.f1, Nat.lt_of_lt_of_le h.lb hs.1, Nat.lt_of_lt_of_le h.ld hs.1, h.ne, h.nb, h.nd, h.emp, h.hd, ownK_same h.own hs, fun x hx => nw_same (h.txt x hx) hs, h.sep, hb⟩
theorem below_putObj {w0 W : World} {l : Nat} (h : Below w0.heap.size w0 W) (hl : w0.heap.size ≤ l) (o : Obj) : Below w0.heap.size w0 (W.putObj l o) :=
  ⟨h.os, h.tape, h.output, by simpa using h.size, fun b hb => (World.putObj_heap_other (by omega)).trans (h.block b hb)⟩

/-- What the body of a round does. -/
def rdPost (w0 : World) (rb rd : Nat) (n : Int) (v : Value) (L : List TV) (W : World) : Exit → Act → World → Prop
  | .normal, _, W' => ∃ v', RS w0 rb rd n W' v' L ∧ KeptK rd rd v.ownBlock W W' ∧ (v'.ownBlock = v.ownBlock ∨ ∃ g, v'.ownBlock = some g ∧ W.heap.size ≤ g)
  | _, _, _ => False
theorem roundLaw {w0 : World} {rb rd tb l D : Nat} {rec : Loop} {n : Int} {s : ByteArray} {m : Nat} (hw : w0.heap.size ≤ l) (hrs : rec.state = .ready) (hpe : rec.pending = none) (hps : rec.params.size = 1) (A : TV → Nat → Act)
    (hassign : ∀ (x : TV) (W : World) (K : Act → World → Prop), K (A x W.heap.size) (W.alloc (.cells (e7 x).toArray 98)) →
      rec.assign.wpIn (Fence.wide.inRound l) m Tryz.prog (Exit.then K (fun _ _ _ => False)) { tmps := (rec.params.zip #[.agg (e7 x).toArray]).foldl (fun t (p, v) => t.setIfInBounds p v) rec.tmps, defers := [] } W)
    (hbody : ∀ (L : List TV) (x : TV) (v : Value) (W : World) (bx : Nat), RS w0 rb rd n W v L → L.length ≤ 1048576 → Nw W w0.heap.size x.t.t.a x.t.t.len x.t.b → (∀ y ∈ L, Apart y x) → bx < W.heap.size → bx ≠ rd → some bx ≠ v.ownBlock → (∀ j u, (e7 x)[j]? = some u → W.cell? ⟨bx, j, none⟩ = some u) →
      rec.body.wpIn (Fence.wide.inRound l) m Tryz.prog (rdPost w0 rb rd n v (L ++ [x]) W) (A x bx) W) :
    RoundOk w0 rb rd tb l D rec n s m := by
  intro L x v W hJ hlen hnw hap
  have hy := run_yield (P := Tryz.prog) (args := #[.agg (e7 x).toArray]) hJ.lp (by rw [hps]; rfl)
  have hll : l < W.heap.size := (Array.getElem?_eq_some_iff.1 hJ.lp).1
  have hJ2 := hJ.below (bl_a (.cells (e7 x).toArray 98))
  have hnw2 := hnw.below (bl_a (.cells (e7 x).toArray 98))
  have hcx : ∀ j u, (e7 x)[j]? = some u → (W.alloc (.cells (e7 x).toArray 98)).cell? ⟨W.heap.size, j, none⟩ = some u := fun j u hj => by
    simp only [go_sem]
    simpa using hj
  have hk2 : ∀ b, b < W.heap.size → (W.alloc (.cells (e7 x).toArray 98)).heap[b]? = W.heap[b]? := fun b hb => (bl_a _).block b hb
  have hsz2 : (W.alloc (.cells (e7 x).toArray 98)).heap.size = W.heap.size + 1 := by simp
  refine ⟨_, _, _, _, hy, roundIn_of_wpIn trivial (hassign x W _ ⟨_, run_beginRound hJ2.lp hrs, ?_⟩)⟩
  generalize W.alloc (.cells (e7 x).toArray 98) = W2 at *
  have hcs3 : CellsSame W2 (W2.putObj l (.loop { rec with state := .busy })) := CellsSame.putObj hJ2.lp rfl _
  have hR3 := hJ2.rs.same hcs3 (below_putObj hJ2.rs.bel hw _)
  have hl3 : (W2.putObj l (.loop { rec with state := .busy })).heap[l]? = some (.loop { rec with state := .busy }) := World.putObj_heap_same (by omega)
  have hk3 : ∀ b, b ≠ l → (W2.putObj l (.loop { rec with state := .busy })).heap[b]? = W2.heap[b]? := fun b hb => World.putObj_heap_other hb
  have hsz3 : (W2.putObj l (.loop { rec with state := .busy })).heap.size = W2.heap.size := by simp
  have hnw3 := nw_same hnw2 hcs3
  have hcx3 : ∀ j u, (e7 x)[j]? = some u → (W2.putObj l (.loop { rec with state := .busy })).cell? ⟨W.heap.size, j, none⟩ = some u := fun j u hj => hcs3.cell (hcx j u hj)
  have htx3 := hcs3.cell hJ2.tx
  have hd3 : (W2.putObj l (.loop { rec with state := .busy })).heap[D]? = some (.deferred (some [])) := by
    refine (hk3 D fun e => ?_).trans hJ2.df
    subst e
    have := hJ2.lp
    rw [hJ2.df] at this
    cases this
  generalize W2.putObj l (.loop { rec with state := .busy }) = W3 at *
  have hrdl := hJ.rs.ld
  refine wpIn_mono (hbody L x v W3 W.heap.size hR3 hlen hnw3 hap (by omega) (by omega) (fun e => by have := (hJ.rs.own.2 _ e.symm).2; omega) hcx3) ?_
  rintro e a4 W4 hp
  cases e with
  | normal =>
    obtain ⟨v', hR4, hk4, hv4⟩ := hp
    have nl : ∀ (b : Nat) (o : Obj), W3.heap[b]? = some o → o.isCells = false → W4.heap[b]? = some o := fun b o hb ho => by
      have hlt := (Array.getElem?_eq_some_iff.1 hb).1
      refine (hk4.block b hlt ?_ ?_ ?_).trans hb
      · intro e
        subst e
        obtain ⟨o', ho', hi⟩ := cells_of_cell hR3.r0
        rw [hb] at ho'
        cases ho'
        rw [ho] at hi
        cases hi
      · intro e
        subst e
        obtain ⟨o', ho', hi⟩ := cells_of_cell hR3.r0
        rw [hb] at ho'
        cases ho'
        rw [ho] at hi
        cases hi
      · intro e
        rcases hR3.own.1.2 with ⟨hv, _⟩ | ⟨g', cap', cur, hv, hB, hh, r⟩
        · rw [hv] at e
          cases e
        · have : b = g' := by rw [hv] at e; simpa [Value.ownBlock] using e
          subst this
          rw [hb] at hh
          cases hh
          cases ho
    have hl4 := nl l _ hl3 rfl
    have hd4 := nl D _ hd3 rfl
    have hr := run_endRound (P := Tryz.prog) none hl4
    have erec : ({ { rec with state := .busy } with state := .ready, pending := none } : Loop) = rec := by
      cases rec
      simp_all
    refine ⟨_, _, hr, rfl, v', ?_, ?_⟩
    · have hcs5 : CellsSame W4 (W4.putObj l (.loop rec)) := CellsSame.putObj hl4 rfl _
      have e5 : W4.putObj l (.loop { { rec with state := .busy } with state := if (none : Option Go.Code).isNone then .ready else .done, pending := none }) = W4.putObj l (.loop rec) := by
        simp only [Option.isNone_none, if_true]
        rw [erec]
      rw [e5]
      have htb : W4.cell? ⟨tb, 0, none⟩ = some (.string s) := by
        rw [hk4.cell (b := tb) (o := 0) (by have := hJ.tl; omega) hJ.tn hJ.tn hJ.tr]
        exact htx3
      refine ⟨hR4.same hcs5 (below_putObj hR4.bel hw _), World.putObj_heap_same (Array.getElem?_eq_some_iff.1 hl4).1, ?_, hcs5.cell htb, ?_, hJ.tn, ?_⟩
      · refine (World.putObj_heap_other fun e => ?_).trans hd4
        subst e
        rw [hl4] at hd4
        cases hd4
      · have := hk4.size
        have := hJ.tl
        simp
        omega
      · rcases hv4 with h | ⟨g, h, hg⟩
        · rw [h]
          exact hJ.tr
        · rw [h]
          intro e
          have := hJ.tl
          cases e
          omega
    · refine ⟨?_, fun b hb h1 h2 h3 => ?_⟩
      · have := hk4.size
        simp
        omega
      · rw [World.putObj_heap_other h2, hk4.block b (by omega) h1 h1 h3, hk3 b h2, hk2 b hb]
  | _ => exact hp.elim
end Go.Proofs.YtoclingolfdfeaaGreatDoor
