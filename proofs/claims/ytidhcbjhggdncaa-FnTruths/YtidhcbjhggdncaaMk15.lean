/- Texts put together: DrwD -/
import Derived.Test.YtidhcbjhggdncaaMk14
import Derived.Test.YtidhcbjhggdncaaMk02
import Derived.Deep.RegionLaw
import Derived.Deep.RegionLawGrows
import Derived.Deep.RegionHeld3
/- DrwD -/
namespace Go.Proofs.Ytidhcbjhggdncaa
open Go.RowKit Go.Deep

/-- A text that is none, or lies in a block of its own from B on. -/
def BTx (w : World) (B : Nat) (a : Option Addr) (len : Nat) (bs : List Int) : Prop := Bs w a len bs ∧ (len = 0 ∨ ∃ g, a = some ⟨g, 0, none⟩ ∧ B ≤ g ∧ g < w.heap.size)
theorem Tx.b {w : World} {B : Nat} {a : Option Addr} {len cap : Nat} {bs : List Int} (h : Tx w B a len cap bs) : BTx w B a len bs := by
  refine ⟨h.1, ?_⟩
  rcases h.2 with ⟨_, h2, _⟩ | ⟨g, ha, hB, hg, _⟩
  · exact .inl h2
  · exact .inr ⟨g, ha, hB, hg⟩
theorem BTx.below {w w' : World} {B : Nat} {a : Option Addr} {len : Nat} {bs : List Int} (h : BTx w B a len bs) (hb : Below w.heap.size w w') : BTx w' B a len bs := by
  refine ⟨h.1.below hb, ?_⟩
  rcases h.2 with h2 | ⟨g, ha, hB, hg⟩
  · exact .inl h2
  · exact .inr ⟨g, ha, hB, Nat.lt_of_lt_of_le hg hb.size⟩
theorem BTx.past' {w w' : World} {B c : Nat} {a : Option Addr} {len : Nat} {bs : List Int} (h : BTx w B a len bs) (hb : Past c w w') (hn : ∀ g, a = some ⟨g, 0, none⟩ → len ≠ 0 → g ≠ c) : BTx w' B a len bs := by
  obtain ⟨⟨l1, l2, l3, l4⟩, h2⟩ := h
  by_cases h0 : len = 0
  · exact ⟨⟨l1, l2, l3, .inl h0⟩, .inl h0⟩
  · obtain ⟨g, rfl, hB, hg⟩ := h2.resolve_left h0
    obtain ⟨b, off, ha, hlt, hcc⟩ := l4.resolve_left h0
    cases ha
    have hne := hn g rfl h0
    exact ⟨⟨l1, l2, l3, .inr ⟨g, 0, rfl, Nat.lt_of_lt_of_le hg hb.size, fun i hi => (hb.cell (p := ⟨g, 0 + i, none⟩) hg hne).trans (hcc i hi)⟩⟩, .inr ⟨g, rfl, hB, Nat.lt_of_lt_of_le hg hb.size⟩⟩
theorem BTx.past {w w' : World} {B c : Nat} {a : Option Addr} {len : Nat} {bs : List Int} (h : BTx w B a len bs) (hb : Past c w w') (hc : c < B) : BTx w' B a len bs := by
  refine h.past' hb fun g ha h0 => ?_
  obtain ⟨g', ha', hB, _⟩ := h.2.resolve_left h0
  rw [ha] at ha'
  cases ha'
  omega
theorem BTx.mono {w : World} {B B' : Nat} {a : Option Addr} {len : Nat} {bs : List Int} (h : BTx w B a len bs) (hB : B' ≤ B) : BTx w B' a len bs := by
  refine ⟨h.1, ?_⟩
  rcases h.2 with h2 | ⟨g, ha, hg, hr⟩
  · exact .inl h2
  · exact .inr ⟨g, ha, Nat.le_trans hB hg, hr⟩

/-- What a draw of a bent term answers, the cursor in block g. -/
def BentDrawn (g : Nat) (a : Option Addr) (len cap : Nat) (w : World) (e : Ending) (w' : World) : Prop :=
  (∃ (k n s : Int) (ta : Option Addr) (tl tc : Nat) (bs : List Int), e = .returned (.agg #[.int .i64 k, .slice ta tl tc, .int .i64 n, .int .i64 s]) ∧ (-9223372036854775808 ≤ n ∧ n ≤ 9223372036854775807) ∧ (-9223372036854775808 ≤ s ∧ s ≤ 9223372036854775807) ∧ tl ≤ 200 ∧ BTx w' w.heap.size ta tl bs) ∧ Past g w w' ∧ Cur w' g a len cap
theorem bent_end {g : Nat} {a : Option Addr} {len cap : Nat} {w w3 : World} {k n s : Int} {ta : Option Addr} {tl tc : Nat} {bs : List Int} {r B : Nat} (hC : Cur w g a len cap) (hP : Past g w w3) (hC3 : Cur w3 g a len cap) (hT : BTx w3 B ta tl bs) (hB : r < B) (hr : w.heap.size ≤ r) (hrg : g ≠ r)
    (hn : -9223372036854775808 ≤ n ∧ n ≤ 9223372036854775807) (hs : -9223372036854775808 ≤ s ∧ s ≤ 9223372036854775807) (hl : tl ≤ 200) :
    BentDrawn g a len cap w (.returned (.agg #[.int .i64 k, .slice ta tl tc, .int .i64 n, .int .i64 s])) ((((w3.setCell ⟨r, 0, none⟩ (.int .i64 k)).setCell ⟨r, 1, none⟩ (.slice ta tl tc)).setCell ⟨r, 2, none⟩ (.int .i64 n)).setCell ⟨r, 3, none⟩ (.int .i64 s)) := by
  have hQ : Past r w3 ((((w3.setCell ⟨r, 0, none⟩ (.int .i64 k)).setCell ⟨r, 1, none⟩ (.slice ta tl tc)).setCell ⟨r, 2, none⟩ (.int .i64 n)).setCell ⟨r, 3, none⟩ (.int .i64 s)) := ((((Past.refl r w3).set 0 _).set 1 _).set 2 _).set 3 _
  have hP' : Past g w ((((w3.setCell ⟨r, 0, none⟩ (.int .i64 k)).setCell ⟨r, 1, none⟩ (.slice ta tl tc)).setCell ⟨r, 2, none⟩ (.int .i64 n)).setCell ⟨r, 3, none⟩ (.int .i64 s)) := (((hP.set_new (p := ⟨r, 0, none⟩) hr _).set_new (p := ⟨r, 1, none⟩) hr _).set_new (p := ⟨r, 2, none⟩) hr _).set_new (p := ⟨r, 3, none⟩) hr _
  exact ⟨⟨k, n, s, ta, tl, tc, bs, rfl, hn, hs, hl, (hT.past hQ hB).mono (by omega)⟩, hP', hC.glue hC3 hP' (hQ.block g hC3.lt hrg)⟩
/-- A store into the drawn term's own block. -/
theorem z_set {g z i : Nat} {v : Value} {a : Option Addr} {len cap : Nat} {w w3 : World} {ta : Option Addr} {tl : Nat} {bs : List Int} {B : Nat} (hC : Cur w g a len cap) (hP : Past g w w3) (hC3 : Cur w3 g a len cap) (hT : BTx w3 B ta tl bs) (hlt : ∀ g', ta = some ⟨g', 0, none⟩ → g' ≠ z) (hz : w.heap.size ≤ z) (hzg : g ≠ z) :
    Past g w (w3.setCell ⟨z, i, none⟩ v) ∧ Cur (w3.setCell ⟨z, i, none⟩ v) g a len cap ∧ BTx (w3.setCell ⟨z, i, none⟩ v) B ta tl bs := by
  have hQ : Past z w3 (w3.setCell ⟨z, i, none⟩ v) := (Past.refl z w3).set i v
  have hP' := hP.set_new (p := ⟨z, i, none⟩) hz v
  exact ⟨hP', hC.glue hC3 hP' (hQ.block g hC3.lt hzg), hT.past' hQ fun g' ha _ => hlt g' ha⟩

/-- A row of n bytes that may be written. -/
def Ok8 (w : World) (b n : Nat) : Prop := ∀ j, j < n → (∃ v, w.cell? ⟨b, j, none⟩ = some (.int .u8 v)) ∧ w.frozen? ⟨b, j, none⟩ = false
theorem Ok8.made (w : World) (n : Nat) (T : TypeId) : Ok8 (w.alloc (.cells (madeCells #[Value.int .u8 0] n) T)) w.heap.size n := fun j hj => by
  have h : (madeCells #[Value.int .u8 0] n)[j]? = some (.int .u8 0) := by
    rw [Array.getElem?_eq_getElem (by rw [size_madeCells]; exact hj)]
    simp [madeCells, Nat.mod_one]
  exact ⟨⟨0, by simp [go_sem, h]⟩, by simp [go_sem]⟩
theorem Ok8.past {w w' : World} {b n c : Nat} (h : Ok8 w b n) (hb : Past c w w') (hn : c ≠ b) : Ok8 w' b n := fun j hj => by
  obtain ⟨⟨v, hv⟩, hf⟩ := h j hj
  have hl : b < w.heap.size := by
    apply Classical.byContradiction
    intro hn
    have e : w.heap[b]? = none := by simp; omega
    simp [World.cell?, e] at hv
  exact ⟨⟨v, (hb.cell (p := ⟨b, j, none⟩) hl (Ne.symm hn)).trans hv⟩, (hb.frozen (p := ⟨b, j, none⟩) hl (Ne.symm hn)).trans hf⟩
theorem Ok8.set {w : World} {b n : Nat} (h : Ok8 w b n) (i : Nat) (x : Int) : Ok8 (w.setCell ⟨b, i, none⟩ (.int .u8 x)) b n := fun j hj => by
  obtain ⟨⟨v, hv⟩, hf⟩ := h j hj
  refine ⟨?_, by rw [World.frozen?_setCell]; exact hf⟩
  by_cases e : j = i
  · subst e; exact ⟨x, set_same hv⟩
  · exact ⟨v, by rw [set_other e]; exact hv⟩
theorem BTx.fill {w : World} {B b n : Nat} (h : ∀ i, i < n → w.cell? ⟨b, i, none⟩ = some (.int .u8 122)) (hB : B ≤ b) (hb : b < w.heap.size) (hn : n ≤ 1000) : BTx w B (some ⟨b, 0, none⟩) n (List.replicate n 122) := by
  refine ⟨⟨by simp, by omega, fun i => ?_, .inr ⟨b, 0, rfl, hb, fun i hi => ?_⟩⟩, .inr ⟨b, rfl, hB, hb⟩⟩
  · rw [List.getElem?_replicate]
    split <;> simp
  · rw [Nat.zero_add, h i hi, List.getElem?_replicate, if_pos hi]
    rfl
theorem z_past {w : World} {z i : Nat} {v : Value} : Past z w (w.setCell ⟨z, i, none⟩ v) := (Past.refl z w).set i v
theorem z_own {w : World} {z : Nat} {v v0 v1 v2 v3 : Value} (h : Own4 w z v0 v1 v2 v3) : Own4 (w.setCell ⟨z, 1, none⟩ v) z v0 v v2 v3 := by
  obtain ⟨⟨hl, h0, h1, h2, h3⟩, f0, f1, f2, f3⟩ := h
  refine ⟨⟨by simpa using hl, ?_, ?_, ?_, ?_⟩, ?_, ?_, ?_, ?_⟩ <;> simp [go_sem, h0, h1, h2, h3, f0, f1, f2, f3]
theorem past_other {g c : Nat} {w w5 w6 : World} (h : Past g w w5) (hq : Past c w5 w6) (hc : w.heap.size ≤ c) : Past g w w6 :=
  ⟨hq.os.trans h.os, hq.tape.trans h.tape, hq.output.trans h.output, Nat.le_trans h.size hq.size, fun b hb hn => (hq.block b (Nat.lt_of_lt_of_le hb h.size) (by omega)).trans (h.block b hb hn)⟩
theorem snoc_get (bs : List Int) (x : Int) (i : Nat) : (bs ++ [x])[i]?.getD 0 = if i < bs.length then bs[i]?.getD 0 else if i = bs.length then x else 0 := by
  by_cases h : i < bs.length
  · rw [if_pos h, List.getElem?_append_left h]
  · rw [if_neg h, List.getElem?_append_right (by omega)]
    by_cases e : i = bs.length
    · subst e; simp
    · rw [if_neg e, List.getElem?_eq_none (by simp; omega)]
      rfl
theorem snoc_bounds {bs : List Int} {x : Int} (h : ∀ i : Nat, 0 ≤ bs[i]?.getD 0 ∧ bs[i]?.getD 0 ≤ 255) (x0 : 0 ≤ x) (x1 : x ≤ 255) (i : Nat) : 0 ≤ (bs ++ [x])[i]?.getD 0 ∧ (bs ++ [x])[i]?.getD 0 ≤ 255 := by
  rw [snoc_get]
  split
  · exact h i
  · split <;> omega
theorem app_room {w5 : World} {B gt tl tc : Nat} {bs : List Int} {x : Int} (h : Tx w5 B (some ⟨gt, 0, none⟩) tl tc bs) (hroom : tl + 1 ≤ tc) (hl : tl ≤ 1000) (x0 : 0 ≤ x) (x1 : x ≤ 255) :
    BTx (w5.setCells gt (0 + tl * 1) [.int .u8 x]) B (some ⟨gt, 0, none⟩) (tl + 1) (bs ++ [x]) ∧ Past gt w5 (w5.setCells gt (0 + tl * 1) [.int .u8 x]) := by
  obtain ⟨⟨l1, l2, l3, l4⟩, h2⟩ := h
  obtain ⟨g', hg', hB, hg, _, hcs⟩ := h2.resolve_left (by rintro ⟨h, _⟩; cases h)
  cases hg'
  have hs : w5.setCells gt (0 + tl * 1) [.int .u8 x] = w5.setCell ⟨gt, tl, none⟩ (.int .u8 x) := by
    rw [Nat.zero_add, Nat.mul_one]
    rfl
  rw [hs]
  have hQ : Past gt w5 (w5.setCell ⟨gt, tl, none⟩ (.int .u8 x)) := (Past.refl gt w5).set tl _
  refine ⟨⟨⟨by simp [l1], by omega, snoc_bounds l3 x0 x1, .inr ⟨gt, 0, rfl, Nat.lt_of_lt_of_le hg hQ.size, fun i hi => ?_⟩⟩, .inr ⟨gt, rfl, hB, Nat.lt_of_lt_of_le hg hQ.size⟩⟩, hQ⟩
  rw [Nat.zero_add, snoc_get, l1]
  by_cases e : i = tl
  · subst e
    obtain ⟨⟨v, hv⟩, _⟩ := hcs i (by omega)
    rw [if_neg (by omega), if_pos rfl]
    exact set_same hv
  · rw [if_pos (by omega), set_other e]
    obtain ⟨b, off, ha, _, hc⟩ := l4.resolve_left (by omega)
    cases ha
    have := hc i (by omega)
    rwa [Nat.zero_add] at this
theorem old_cells {w5 : World} {B : Nat} {ta : Option Addr} {tl tc : Nat} {bs : List Int} (h : Tx w5 B ta tl tc bs) {b : Addr} (hb : ta = some b) {j : Nat} {u : Value} (hj : (bs.map (Value.int .u8))[j]? = some u) : w5.cell? (b.add j) = some u := by
  obtain ⟨⟨l1, l2, l3, l4⟩, h2⟩ := h
  have hjl : j < bs.length := by
    apply Classical.byContradiction
    intro hn
    rw [List.getElem?_eq_none (by simp; omega)] at hj
    cases hj
  obtain ⟨c, off, ha, _, hc⟩ := l4.resolve_left (by omega)
  obtain ⟨g', hg', _⟩ := h2.resolve_left (by rintro ⟨h, _⟩; rw [h] at ha; cases ha)
  rw [hb] at hg'
  cases hg'
  rw [hb] at ha
  cases ha
  have := hc j (by omega)
  have ea : (⟨c, 0, none⟩ : Addr).add j = ⟨c, 0 + j, none⟩ := by
    by_cases h0 : j = 0 <;> simp [Addr.add, h0]
  rw [ea, this, ← hj]
  simp [List.getElem?_eq_getElem hjl]
theorem app_grow {w5 w6 : World} {ta : Option Addr} {tl : Nat} {bs : List Int} {x : Int} {v' : Value} {E : TypeId} (h : Bs w5 ta tl bs) (hown : w6.ownsRow w5.heap.size E 1 v' (tl + 1) (bs.map (Value.int .u8) ++ [.int .u8 x])) (hgr : w5.grownBy w6 none) (hl : tl ≤ 1000) (x0 : 0 ≤ x) (x1 : x ≤ 255) :
    ∃ g' c', v' = .slice (some ⟨g', 0, none⟩) (tl + 1) c' ∧ w5.heap.size ≤ g' ∧ BTx w6 w5.heap.size (some ⟨g', 0, none⟩) (tl + 1) (bs ++ [x]) ∧ Below w5.heap.size w5 w6 := by
  obtain ⟨l1, l2, l3, _⟩ := h
  obtain ⟨_, ho⟩ := hown
  rcases ho with ⟨_, h0⟩ | ⟨g', c', cur, rfl, hg, hh, hle, hmx, hsz, htk⟩
  · omega
  have hlt : g' < w6.heap.size := by
    apply Classical.byContradiction
    intro hn
    rw [Array.getElem?_eq_none (by omega)] at hh
    cases hh
  refine ⟨g', c', rfl, hg, ⟨⟨by simp [l1], by omega, snoc_bounds l3 x0 x1, .inr ⟨g', 0, rfl, hlt, fun i hi => ?_⟩⟩, .inr ⟨g', rfl, hg, hlt⟩⟩, ⟨hgr.os, hgr.tape, hgr.output, hgr.size, fun b hb => hgr.block b hb (by simp)⟩⟩
  have hc : w6.cell? ⟨g', 0 + i, none⟩ = cur[0 + i]? := by simp [World.cell?, hh]
  rw [hc, Nat.zero_add]
  have h1 : cur[i]? = (cur.toList.take ((tl + 1) * 1))[i]? := by
    rw [List.getElem?_take, if_pos (by omega)]
    simp
  rw [h1, htk, snoc_get, l1]
  by_cases e : i < tl
  · rw [if_pos e, List.getElem?_append_left (by simp; omega)]
    simp [List.getElem?_eq_getElem (show i < bs.length by omega)]
  · obtain rfl : i = tl := by omega
    rw [if_neg e, if_pos rfl, List.getElem?_append_right (by simp [l1])]
    simp [l1]

theorem bl_drewD {w : World} : Below w.heap.size w w.drew := Below.drew (Below.refl _ _)
theorem take_at {P : Program} {md : Region.Mode} {ops : Array Oper} {Q : Exit → Act → World → Prop} {S : World → Prop} {i : Nat} {oi : Oper} {v : Value} {fuel : Nat} {listed : Array Bool} {a : Act} {w : World} (d : Nat) (hi : ops[i]? = some oi) (hd : oi.dst = some d)
    (hs : Region.noSelect ops = true) (hf : Region.free md ops listed i = true) (hr : (Region.ready md ops listed).contains i = true)
    (hQ : ∀ c a w, Q (.panic c) (a.put (some d) v) w → Q (.panic c) a w) (hy : YieldsIf P ops S oi v a) (hS : S w)
    (h : wpAnyH P md ops Q S fuel (listed.setIfInBounds i true) (a.put (some d) v) w) : wpAnyH P md ops Q S (fuel + 1) listed a w :=
  wpAnyH_take hi hs hf hr (by rw [hd]; exact hQ) hy hS (by rw [hd]; exact h)

set_option maxRecDepth 20000 in
set_option maxHeartbeats 4000000 in
theorem l1bent_any (g : Nat) (a : Option Addr) (len cap : Nat) (w : World) (hlen : len ≤ 9223372036854775807) (hC : Cur w g a len cap) :
    Calls Try.prog 20 #[.pointer (some ⟨g, 0, none⟩)] w fun e w' => BentDrawn g a len cap w e w' := by
  have B := fun w (n : Nat) (h : Cur w g a len cap) (h1 : 1 ≤ n) (h2 : n ≤ 256) => l1Below_any g a len cap n w hlen h h1 h2
  have O := fun w (n : Nat) (h : Cur w g a len cap) (h1 : 1 ≤ n) (h2 : n ≤ 256) => l1Once_any g a len cap n w hlen h h1 h2
  have PI := fun w (lb n : Nat) (L : Nat → Int) (h : Cur w g a len cap) h1 h2 h3 h4 h5 => l1PickInt_any g lb a len cap n L w hlen h h1 h2 h3 h4 h5
  have BY := fun w (h : Cur w g a len cap) => l1Byte_any g a len cap w hlen h
  have hgl := hC.lt
  have HC : Hid (Cur w g a len cap) := hC
  clear hC
  go_enter Try.func20, Try.ntmps20
  go_wp2_with fail
  refine (l1term_any g a len cap _ hlen (HC.out.below (bl_a _))).mono ?_
  rintro e w1 ⟨⟨k, n, s, ta, tl, tc, bs, rfl, hn, hsc, htl, hT⟩, hP1, hC1⟩
  have hR := (Own4.at w w.heap.size (.int .i64 0) (.slice none 0 0) (.int .i64 0) (.int .i64 0) 24 rfl).past hP1 (by omega)
  have hP := (Past.of_below (g := g) (bl_a (w := w) (.cells #[.int .i64 0, .slice none 0 0, .int .i64 0, .int .i64 0] 24))).trans hP1
  have hs1 := hP1.size
  simp at hs1 hT
  have hlt : ∀ g', ta = some ⟨g', 0, none⟩ → g' ≠ w1.heap.size := by
    intro g' hg'
    rcases hT.2 with ⟨h, _⟩ | ⟨g2, h, _, hl, _⟩
    · rw [hg'] at h; cases h
    · rw [hg'] at h; cases h; omega
  clear hP1
  go_wp2_with fail
  refine (O (w1.alloc (.cells #[.int .i64 k, .slice ta tl tc, .int .i64 n, .int .i64 s] 24)) 7 (hC1.below (bl_a _)) (by omega) (by omega)).mono ?_
  rintro e w2 ⟨p, rfl, hP2, hC2⟩
  have hZ2 := (Own4.at w1 w1.heap.size (.int .i64 k) (.slice ta tl tc) (.int .i64 n) (.int .i64 s) 24 rfl).past hP2 (by omega)
  have hR2 := (hR.below (bl_a _)).past hP2 (by omega)
  have hT2 := (hT.below (bl_a (.cells #[.int .i64 k, .slice ta tl tc, .int .i64 n, .int .i64 s] 24))).past hP2 (by omega)
  have hs2 := hP2.size
  simp at hs2
  have HP2 : Hid (Past g w w2) := (hP.trans (Past.of_below (bl_a _))).trans hP2
  clear hP2 hR hT hP hC1
  cases p
  · have HC2 : Hid (Cur w2 g a len cap) := hC2
    have HT : Hid (Tx w2 (w.heap.size + 1) ta tl tc bs) := hT2
    obtain ⟨⟨o0, o1, o2, o3, o4⟩, f0, f1, f2, f3⟩ := id hR2
    obtain ⟨⟨p0, p1, p2, p3, p4⟩, e0, e1, e2, e3⟩ := id hZ2
    clear B O PI BY hC2 hT2 hR2 hZ2
    go_wp2
    refine bodyPost_ret (v := .agg #[.int .i64 k, .slice ta tl tc, .int .i64 n, .int .i64 s]) (by simp [results, Try.results20, go_sem, *]) rfl ?_
    exact bent_end HC.out HP2.out HC2.out HT.out.b (by omega) (Nat.le_refl _) (by omega) hn (by omega) (by omega)
  go_wp2_with fail
  refine (B _ 5 hC2 (by omega) (by omega)).mono ?_
  rintro e w3 ⟨y, rfl, hy, hP3, hC3⟩
  have hZ3 := hZ2.past hP3 (by omega)
  have hR3 := hR2.past hP3 (by omega)
  have hT3 := hT2.past hP3 (by omega)
  have hB3 := hT3.b
  have hs3 := hP3.size
  have HP3 : Hid (Past g w w3) := HP2.out.trans hP3
  clear hP3 hR2 hT2 hZ2 HP2 hC2 O
  by_cases y0 : y = 0
  · subst y0
    clear BY hT3
    go_wp2_with fail
    refine (PI _ w3.heap.size 6 (fun i => if i = 0 then -1 else if i = 1 then 4 else if i = 2 then 0 else if i = 3 then 1 else if i = 4 then 2 else 3) (hC3.below (bl_a _)) (by omega) (by omega) (by simp) (by omega) (by
      intro i hi
      have hii : i = 0 ∨ i = 1 ∨ i = 2 ∨ i = 3 ∨ i = 4 ∨ i = 5 := by omega
      rcases hii with rfl | rfl | rfl | rfl | rfl | rfl
      all_goals simp [go_sem])).mono ?_
    rintro e w4 ⟨j, hj, rfl, hP4, hC4⟩
    obtain ⟨q, hq, hq1, hq2⟩ : ∃ q : Int, q = (if j = 0 then -1 else if j = 1 then 4 else if j = 2 then 0 else if j = 3 then 1 else if j = 4 then 2 else 3) ∧ -9223372036854775808 ≤ q ∧ q ≤ 9223372036854775807 := by
      refine ⟨_, rfl, ?_⟩
      have hii : j = 0 ∨ j = 1 ∨ j = 2 ∨ j = 3 ∨ j = 4 ∨ j = 5 := by omega
      rcases hii with rfl | rfl | rfl | rfl | rfl | rfl
      all_goals decide
    simp only [← hq]
    clear hq hj
    have hR4 := (hR3.below (bl_a _)).past hP4 (by omega)
    have hZ4 := (hZ3.below (bl_a _)).past hP4 (by omega)
    have hs4 := hP4.size
    simp at hs4
    have hB4 := (hB3.below (bl_a _)).past hP4 (by omega)
    have HP4 : Hid (Past g w w4) := (HP3.out.trans (Past.of_below (bl_a _))).trans hP4
    have HC4 : Hid (Cur w4 g a len cap) := hC4
    clear hP4 hC4 hR3 hZ3 hB3 HP3 hC3 PI B
    obtain ⟨⟨o0, o1, o2, o3, o4⟩, f0, f1, f2, f3⟩ := id hR4
    obtain ⟨⟨p0, p1, p2, p3, p4⟩, e0, e1, e2, e3⟩ := id hZ4
    have HZ := z_set (i := 0) (v := .int .i64 q) HC.out HP4.out HC4.out hB4 hlt (by omega) (by omega)
    have HZ' : Hid (Past g w (w4.setCell ⟨w1.heap.size, 0, none⟩ (.int .i64 q)) ∧ Cur (w4.setCell ⟨w1.heap.size, 0, none⟩ (.int .i64 q)) g a len cap ∧ BTx (w4.setCell ⟨w1.heap.size, 0, none⟩ (.int .i64 q)) (w.heap.size + 1) ta tl bs) := HZ
    clear HZ hR4 hZ4 hB4
    go_wp2
    refine bodyPost_ret (v := .agg #[.int .i64 q, .slice ta tl tc, .int .i64 n, .int .i64 s]) (by simp [results, Try.results20, go_sem, *]) rfl ?_
    exact bent_end HC.out HZ'.out.1 HZ'.out.2.1 HZ'.out.2.2 (by omega) (Nat.le_refl _) (by omega) hn (by omega) (by omega)
  by_cases y1 : y = 1
  · subst y1
    clear BY hT3
    go_wp2_with fail
    refine (PI _ w3.heap.size 6 (fun i => if i = 0 then -1 else if i = 1 then 10 else if i = 2 then 1000000000000001 else if i = 3 then 9223372036854775807 else if i = 4 then -9223372036854775808 else 1000000) (hC3.below (bl_a _)) (by omega) (by omega) (by simp) (by omega) (by
      intro i hi
      have hii : i = 0 ∨ i = 1 ∨ i = 2 ∨ i = 3 ∨ i = 4 ∨ i = 5 := by omega
      rcases hii with rfl | rfl | rfl | rfl | rfl | rfl
      all_goals simp [go_sem])).mono ?_
    rintro e w4 ⟨j, hj, rfl, hP4, hC4⟩
    obtain ⟨q, hq, hq1, hq2⟩ : ∃ q : Int, q = (if j = 0 then -1 else if j = 1 then 10 else if j = 2 then 1000000000000001 else if j = 3 then 9223372036854775807 else if j = 4 then -9223372036854775808 else 1000000) ∧ -9223372036854775808 ≤ q ∧ q ≤ 9223372036854775807 := by
      refine ⟨_, rfl, ?_⟩
      have hii : j = 0 ∨ j = 1 ∨ j = 2 ∨ j = 3 ∨ j = 4 ∨ j = 5 := by omega
      rcases hii with rfl | rfl | rfl | rfl | rfl | rfl
      all_goals decide
    simp only [← hq]
    clear hq hj
    have hR4 := (hR3.below (bl_a _)).past hP4 (by omega)
    have hZ4 := (hZ3.below (bl_a _)).past hP4 (by omega)
    have hs4 := hP4.size
    simp at hs4
    have hB4 := (hB3.below (bl_a _)).past hP4 (by omega)
    have HP4 : Hid (Past g w w4) := (HP3.out.trans (Past.of_below (bl_a _))).trans hP4
    have HC4 : Hid (Cur w4 g a len cap) := hC4
    clear hP4 hC4 hR3 hZ3 hB3 HP3 hC3 PI B
    obtain ⟨⟨o0, o1, o2, o3, o4⟩, f0, f1, f2, f3⟩ := id hR4
    obtain ⟨⟨p0, p1, p2, p3, p4⟩, e0, e1, e2, e3⟩ := id hZ4
    have HZ := z_set (i := 2) (v := .int .i64 q) HC.out HP4.out HC4.out hB4 hlt (by omega) (by omega)
    have HZ' : Hid (Past g w (w4.setCell ⟨w1.heap.size, 2, none⟩ (.int .i64 q)) ∧ Cur (w4.setCell ⟨w1.heap.size, 2, none⟩ (.int .i64 q)) g a len cap ∧ BTx (w4.setCell ⟨w1.heap.size, 2, none⟩ (.int .i64 q)) (w.heap.size + 1) ta tl bs) := HZ
    clear HZ hR4 hZ4 hB4
    go_wp2
    refine bodyPost_ret (v := .agg #[.int .i64 k, .slice ta tl tc, .int .i64 q, .int .i64 s]) (by simp [results, Try.results20, go_sem, *]) rfl ?_
    exact bent_end HC.out HZ'.out.1 HZ'.out.2.1 HZ'.out.2.2 (by omega) (Nat.le_refl _) (by omega) ⟨hq1, hq2⟩ (by omega) (by omega)
  by_cases y2 : y = 2
  · subst y2
    clear BY hT3
    go_wp2_with fail
    refine (PI _ w3.heap.size 4 (fun i => if i = 0 then -1 else if i = 1 then 1 else if i = 2 then 6 else 7) (hC3.below (bl_a _)) (by omega) (by omega) (by simp) (by omega) (by
      intro i hi
      have hii : i = 0 ∨ i = 1 ∨ i = 2 ∨ i = 3 := by omega
      rcases hii with rfl | rfl | rfl | rfl
      all_goals simp [go_sem])).mono ?_
    rintro e w4 ⟨j, hj, rfl, hP4, hC4⟩
    obtain ⟨q, hq, hq1, hq2⟩ : ∃ q : Int, q = (if j = 0 then -1 else if j = 1 then 1 else if j = 2 then 6 else 7) ∧ -9223372036854775808 ≤ q ∧ q ≤ 9223372036854775807 := by
      refine ⟨_, rfl, ?_⟩
      have hii : j = 0 ∨ j = 1 ∨ j = 2 ∨ j = 3 := by omega
      rcases hii with rfl | rfl | rfl | rfl
      all_goals decide
    simp only [← hq]
    clear hq hj
    have hR4 := (hR3.below (bl_a _)).past hP4 (by omega)
    have hZ4 := (hZ3.below (bl_a _)).past hP4 (by omega)
    have hs4 := hP4.size
    simp at hs4
    have hB4 := (hB3.below (bl_a _)).past hP4 (by omega)
    have HP4 : Hid (Past g w w4) := (HP3.out.trans (Past.of_below (bl_a _))).trans hP4
    have HC4 : Hid (Cur w4 g a len cap) := hC4
    clear hP4 hC4 hR3 hZ3 hB3 HP3 hC3 PI B
    obtain ⟨⟨o0, o1, o2, o3, o4⟩, f0, f1, f2, f3⟩ := id hR4
    obtain ⟨⟨p0, p1, p2, p3, p4⟩, e0, e1, e2, e3⟩ := id hZ4
    have HZ := z_set (i := 3) (v := .int .i64 q) HC.out HP4.out HC4.out hB4 hlt (by omega) (by omega)
    have HZ' : Hid (Past g w (w4.setCell ⟨w1.heap.size, 3, none⟩ (.int .i64 q)) ∧ Cur (w4.setCell ⟨w1.heap.size, 3, none⟩ (.int .i64 q)) g a len cap ∧ BTx (w4.setCell ⟨w1.heap.size, 3, none⟩ (.int .i64 q)) (w.heap.size + 1) ta tl bs) := HZ
    clear HZ hR4 hZ4 hB4
    go_wp2
    refine bodyPost_ret (v := .agg #[.int .i64 k, .slice ta tl tc, .int .i64 n, .int .i64 q]) (by simp [results, Try.results20, go_sem, *]) rfl ?_
    exact bent_end HC.out HZ'.out.1 HZ'.out.2.1 HZ'.out.2.2 (by omega) (Nat.le_refl _) (by omega) hn ⟨hq1, hq2⟩ (by omega)
  by_cases y3 : y = 3
  · subst y3
    clear B PI
    obtain ⟨i0, hi0, hzz⟩ := Option.map_eq_some_iff.1 Try.info5
    simp only [Prod.mk.injEq] at hzz
    obtain ⟨hi2, hi1, hi3⟩ := hzz
    obtain ⟨⟨p0, p1, p2, p3, p4⟩, e0, e1, e2, e3⟩ := id hZ3
    go_wp2_with fail
    refine wp_region_held_drew (S := (fun _ => True)) (by kernel_rfl) trivial (fun hHeld => ?_)
    refine take_at (i := 0) 49 (v := ?v901) rfl rfl (by kernel_rfl) (by kernel_rfl) (by kernel_rfl) (fun _ _ _ h => h) (Or.inl ⟨by rfl, ?y901⟩) (by assumption) ?r901
    case y901 => (intro w hSw; (try dsimp only at hSw); go_simp; (try with_reducible rfl))
    simp only [Act.put, List.setIfInBounds_toArray, List.set_cons_zero, List.set_cons_succ]
    refine take_at (i := 2) 51 (v := ?v902) rfl rfl (by kernel_rfl) (by kernel_rfl) (by kernel_rfl) (fun _ _ _ h => h) (Or.inl ⟨by rfl, ?y902⟩) (by assumption) ?r902
    case y902 => (intro w hSw; (try dsimp only at hSw); go_simp; (try with_reducible rfl))
    simp only [Act.put, List.setIfInBounds_toArray, List.set_cons_zero, List.set_cons_succ]
    refine wpAnyH_ready (rs := [1, 3]) (by kernel_rfl) (by simp) ?_
    refine AllReadyH.cons rfl (fun K hK => ?_) (AllReadyH.cons rfl (fun K hK => ?_) AllReadyH.nil)
    · go_simp
      refine hK.out _ _ trivial (fun hHeld => ?_)
      clear hK K
      refine wpAnyH_ready (rs := [3]) (by kernel_rfl) (by simp) ?_
      refine AllReadyH.cons rfl (fun K hK => ?_) AllReadyH.nil
      go_simp
      refine (BY _ (hC3.below bl_drewD)).mono ?_
      rintro e w4 ⟨x, rfl, x0, x1, hP4, hC4⟩
      have hR4 := (hR3.below bl_drewD).past hP4 (by omega)
      have hZ4 := (hZ3.below bl_drewD).past hP4 (by omega)
      have hT4 := (hT3.below bl_drewD).past hP4 (by omega)
      have hs4 := hP4.size
      simp at hs4
      have HP4 : Hid (Past g w w4) := (HP3.out.trans (Past.of_below bl_drewD)).trans hP4
      have HC4 : Hid (Cur w4 g a len cap) := hC4
      clear p0 p1 p2 p3 p4 e0 e1 e2 e3
      obtain ⟨⟨p0, p1, p2, p3, p4⟩, e0, e1, e2, e3⟩ := id hZ4
      have hwx : IntKind.u8.wrap x = x := by rw [IntKind.wrap_u8]; omega
      clear hP4 hC4
      go_wp2_with fail
      refine hK.out _ _ trivial (fun hHeld => ?_)
      clear hK K
      refine take_at (i := 4) 53 (v := ?v903) rfl rfl (by kernel_rfl) (by kernel_rfl) (by kernel_rfl) (fun _ _ _ h => h) (Or.inl ⟨by rfl, ?y903⟩) (by assumption) ?r903
      case y903 => (intro w hSw; (try dsimp only at hSw); go_simp; (try with_reducible rfl))
      simp only [Act.put, List.setIfInBounds_toArray, List.set_cons_zero, List.set_cons_succ]
      refine wpAnyH_ready (rs := [5]) (by kernel_rfl) (by simp) ?_
      refine AllReadyH.cons rfl (fun K hK => ?_) AllReadyH.nil
      go_simp
      refine hK.out _ _ trivial (fun hHeld => ?_)
      clear hK K
      have hR5 := hR4.below (bl_a (.cells #[.int .u8 x] 5))
      have hZ5 := hZ4.below (bl_a (.cells #[.int .u8 x] 5))
      have hT5 := hT4.below (bl_a (.cells #[.int .u8 x] 5))
      have HP5 : Hid (Past g w (w4.alloc (.cells #[.int .u8 x] 5))) := HP4.out.trans (Past.of_below (bl_a _))
      have HC5 : Hid (Cur (w4.alloc (.cells #[.int .u8 x] 5)) g a len cap) := HC4.out.below (bl_a _)
      have hnw : ∀ j u, [Value.int .u8 x][j]? = some u → (w4.alloc (.cells #[.int .u8 x] 5)).cell? ((⟨w4.heap.size, 0, none⟩ : Addr).add j) = some u := by
        intro j u hj
        have hj0 : j = 0 := by
          cases j with
          | zero => rfl
          | succ j => simp at hj
        subst hj0
        simp at hj
        subst hj
        simp [Addr.add, go_sem]
      have hs5 : (w4.alloc (.cells #[.int .u8 x] 5)).heap.size = w4.heap.size + 1 := by simp
      clear p0 p1 p2 p3 p4 e0 e1 e2 e3
      clear hR4 hZ4 hT4 HP4 HC4
      generalize (w4.alloc (.cells #[.int .u8 x] 5)) = w5 at *
      refine wpAnyH_ready (rs := [6]) (by kernel_rfl) (by simp) ?_
      refine AllReadyH.cons rfl (fun K hK => ?_) AllReadyH.nil
      by_cases hroom : tl + 1 ≤ tc
      · obtain ⟨gt, hta, hgB, hgl5, _, hcs⟩ := hT5.2.resolve_left (by rintro ⟨_, _, h⟩; omega)
        subst hta
        refine step_append_room rfl (.tmp 50) (.tmp 54) 22 rfl 5 i0 1 Try.underlying22 hi0 hi1 gt 0 tl tc (by simp [Act.eval]) ⟨w4.heap.size, 0, none⟩ 1 1 [.int .u8 x] (by simp [Act.eval]) rfl hnw (by simp [Value.oneCell']) hroom (fun j hj => ?_) ?_
        · obtain rfl : j = 0 := by simpa using hj
          have := hcs tl (by omega)
          simp only [Nat.zero_add, Nat.mul_one, Nat.add_zero]
          obtain ⟨⟨v, hv⟩, hf⟩ := this
          exact ⟨by rw [hv]; rfl, hf⟩
        obtain ⟨hB6, hQ6⟩ := app_room hT5 hroom (by omega) x0 x1
        have hne := hlt gt rfl
        have hR6 := hR5.past hQ6 (by omega)
        have hZ6 := hZ5.past hQ6 (by omega)
        have HP6' := past_other HP5.out hQ6 (by omega)
        have HC6' := HC.out.glue HC5.out HP6' (hQ6.block g HC5.out.lt (by omega))
        have HP6 : Hid (Past g w (w5.setCells gt (0 + tl * 1) [.int .u8 x])) := HP6'
        have HC6 : Hid (Cur (w5.setCells gt (0 + tl * 1) [.int .u8 x]) g a len cap) := HC6'
        clear HP6' HC6' hQ6 hR5 hZ5 hT5 HP5 HC5 hcs hnw
        generalize w5.setCells gt (0 + tl * 1) [.int .u8 x] = w6 at *
        obtain ⟨g', hg'⟩ : ∃ g', g' = gt := ⟨_, rfl⟩
        obtain ⟨c', hc'⟩ : ∃ c', c' = tc := ⟨_, rfl⟩
        rw [← hg', ← hc']
        rw [← hg'] at hB6 hne
        clear hg' hc'
        refine hK.out (Act.put _ (some 55) _) _ trivial (fun hHeld => ?_)
        clear hK K
        simp only [Act.put, List.setIfInBounds_toArray, List.set_cons_zero, List.set_cons_succ]
        obtain ⟨⟨o0, o1, o2, o3, o4⟩, f0, f1, f2, f3⟩ := id hR6
        obtain ⟨⟨p0, p1, p2, p3, p4⟩, e0, e1, e2, e3⟩ := id hZ6
        have HZ := z_set (i := 1) (v := .slice (some ⟨g', 0, none⟩) (tl + 1) c') HC.out HP6.out HC6.out hB6 (fun q hq => by cases hq; exact hne) (by omega) (by omega)
        have HZ' : Hid (Past g w (w6.setCell ⟨w1.heap.size, 1, none⟩ (.slice (some ⟨g', 0, none⟩) (tl + 1) c')) ∧ Cur (w6.setCell ⟨w1.heap.size, 1, none⟩ (.slice (some ⟨g', 0, none⟩) (tl + 1) c')) g a len cap ∧ BTx (w6.setCell ⟨w1.heap.size, 1, none⟩ (.slice (some ⟨g', 0, none⟩) (tl + 1) c')) (w.heap.size + 1) (some ⟨g', 0, none⟩) (tl + 1) (bs ++ [x])) := HZ
        clear HZ hR6 hZ6 hB6
        refine take_at (i := 7) 56 (v := ?v904) rfl rfl (by kernel_rfl) (by kernel_rfl) (by kernel_rfl) (fun _ _ _ h => h) (Or.inl ⟨by rfl, ?y904⟩) (by assumption) ?r904
        case y904 => (intro w hSw; (try dsimp only at hSw); go_simp; (try with_reducible rfl))
        simp only [Act.put, List.setIfInBounds_toArray, List.set_cons_zero, List.set_cons_succ]
        refine wpAnyH_ready (rs := [8]) (by kernel_rfl) (by simp) ?_
        refine AllReadyH.cons rfl (fun K hK => ?_) AllReadyH.nil
        go_simp
        refine hK.out _ _ trivial (fun hHeld => ?_)
        clear hK K
        refine wpAnyH_done (by kernel_rfl) ?_ _
        go_wp2
        refine bodyPost_ret (v := .agg #[.int .i64 k, .slice (some ⟨g', 0, none⟩) (tl + 1) c', .int .i64 n, .int .i64 s]) (by simp [results, Try.results20, go_sem, *]) rfl ?_
        exact bent_end HC.out HZ'.out.1 HZ'.out.2.1 HZ'.out.2.2 (by omega) (Nat.le_refl _) (by omega) hn (by omega) (by omega)
      · refine step_append_grows rfl (.tmp 50) (.tmp 54) 22 rfl 5 i0 (.int .u8 0) 1 1 Try.underlying22 hi0 hi2 hi1 hi3 rfl (by omega) ta tl tc (bs.map (Value.int .u8)) (by simp [Act.eval]) (fun h => ?_) (by simp [hT5.1.1]) (fun b hb j u hj => ?_) ⟨w4.heap.size, 0, none⟩ 1 1 [.int .u8 x] (by simp [Act.eval]) rfl hnw (by simp [Value.oneCell']) (by omega) (by unfold maxLen; omega) (by omega) ?_
        · rcases hT5.2 with ⟨_, h1, h2⟩ | ⟨gt, ht, _⟩
          · exact ⟨h1, h2⟩
          · rw [h] at ht; cases ht
        · exact old_cells hT5 hb hj
        intro v' w6 hown hgr
        obtain ⟨g', c', rfl, hg', hB6', hb6⟩ := app_grow hT5.1 hown hgr (by omega) x0 x1
        have hB6 := hB6'.mono (B' := w.heap.size + 1) (by omega)
        have hne : g' ≠ w1.heap.size := by omega
        have hR6 := hR5.below hb6
        have hZ6 := hZ5.below hb6
        have HP6 : Hid (Past g w w6) := HP5.out.trans (Past.of_below hb6)
        have HC6 : Hid (Cur w6 g a len cap) := HC5.out.below hb6
        clear hown hgr hb6 hB6' hR5 hZ5 hT5 HP5 HC5 hnw
        refine hK.out (Act.put _ (some 55) _) _ trivial (fun hHeld => ?_)
        clear hK K
        simp only [Act.put, List.setIfInBounds_toArray, List.set_cons_zero, List.set_cons_succ]
        obtain ⟨⟨o0, o1, o2, o3, o4⟩, f0, f1, f2, f3⟩ := id hR6
        obtain ⟨⟨p0, p1, p2, p3, p4⟩, e0, e1, e2, e3⟩ := id hZ6
        have HZ := z_set (i := 1) (v := .slice (some ⟨g', 0, none⟩) (tl + 1) c') HC.out HP6.out HC6.out hB6 (fun q hq => by cases hq; exact hne) (by omega) (by omega)
        have HZ' : Hid (Past g w (w6.setCell ⟨w1.heap.size, 1, none⟩ (.slice (some ⟨g', 0, none⟩) (tl + 1) c')) ∧ Cur (w6.setCell ⟨w1.heap.size, 1, none⟩ (.slice (some ⟨g', 0, none⟩) (tl + 1) c')) g a len cap ∧ BTx (w6.setCell ⟨w1.heap.size, 1, none⟩ (.slice (some ⟨g', 0, none⟩) (tl + 1) c')) (w.heap.size + 1) (some ⟨g', 0, none⟩) (tl + 1) (bs ++ [x])) := HZ
        clear HZ hR6 hZ6 hB6
        refine take_at (i := 7) 56 (v := ?v905) rfl rfl (by kernel_rfl) (by kernel_rfl) (by kernel_rfl) (fun _ _ _ h => h) (Or.inl ⟨by rfl, ?y905⟩) (by assumption) ?r905
        case y905 => (intro w hSw; (try dsimp only at hSw); go_simp; (try with_reducible rfl))
        simp only [Act.put, List.setIfInBounds_toArray, List.set_cons_zero, List.set_cons_succ]
        refine wpAnyH_ready (rs := [8]) (by kernel_rfl) (by simp) ?_
        refine AllReadyH.cons rfl (fun K hK => ?_) AllReadyH.nil
        go_simp
        refine hK.out _ _ trivial (fun hHeld => ?_)
        clear hK K
        refine wpAnyH_done (by kernel_rfl) ?_ _
        go_wp2
        refine bodyPost_ret (v := .agg #[.int .i64 k, .slice (some ⟨g', 0, none⟩) (tl + 1) c', .int .i64 n, .int .i64 s]) (by simp [results, Try.results20, go_sem, *]) rfl ?_
        exact bent_end HC.out HZ'.out.1 HZ'.out.2.1 HZ'.out.2.2 (by omega) (Nat.le_refl _) (by omega) hn (by omega) (by omega)
    · go_simp
      refine (BY _ (hC3.below bl_drewD)).mono ?_
      rintro e w4 ⟨x, rfl, x0, x1, hP4, hC4⟩
      have hR4 := (hR3.below bl_drewD).past hP4 (by omega)
      have hZ4 := (hZ3.below bl_drewD).past hP4 (by omega)
      have hT4 := (hT3.below bl_drewD).past hP4 (by omega)
      have hs4 := hP4.size
      simp at hs4
      have HP4 : Hid (Past g w w4) := (HP3.out.trans (Past.of_below bl_drewD)).trans hP4
      have HC4 : Hid (Cur w4 g a len cap) := hC4
      clear p0 p1 p2 p3 p4 e0 e1 e2 e3
      obtain ⟨⟨p0, p1, p2, p3, p4⟩, e0, e1, e2, e3⟩ := id hZ4
      have hwx : IntKind.u8.wrap x = x := by rw [IntKind.wrap_u8]; omega
      clear hP4 hC4
      go_wp2_with fail
      refine hK.out _ _ trivial (fun hHeld => ?_)
      clear hK K
      refine take_at (i := 4) 53 (v := ?v910) rfl rfl (by kernel_rfl) (by kernel_rfl) (by kernel_rfl) (fun _ _ _ h => h) (Or.inl ⟨by rfl, ?y910⟩) (by assumption) ?r910
      case y910 => (intro w hSw; (try dsimp only at hSw); go_simp; (try with_reducible rfl))
      simp only [Act.put, List.setIfInBounds_toArray, List.set_cons_zero, List.set_cons_succ]
      refine wpAnyH_ready (rs := [1, 5]) (by kernel_rfl) (by simp) ?_
      refine AllReadyH.cons rfl (fun K hK => ?_) (AllReadyH.cons rfl (fun K hK => ?_) AllReadyH.nil)
      · go_simp
        refine hK.out _ _ trivial (fun hHeld => ?_)
        clear hK K
        refine wpAnyH_ready (rs := [5]) (by kernel_rfl) (by simp) ?_
        refine AllReadyH.cons rfl (fun K hK => ?_) AllReadyH.nil
        go_simp
        refine hK.out _ _ trivial (fun hHeld => ?_)
        clear hK K
        have hR5 := hR4.below (bl_a (.cells #[.int .u8 x] 5))
        have hZ5 := hZ4.below (bl_a (.cells #[.int .u8 x] 5))
        have hT5 := hT4.below (bl_a (.cells #[.int .u8 x] 5))
        have HP5 : Hid (Past g w (w4.alloc (.cells #[.int .u8 x] 5))) := HP4.out.trans (Past.of_below (bl_a _))
        have HC5 : Hid (Cur (w4.alloc (.cells #[.int .u8 x] 5)) g a len cap) := HC4.out.below (bl_a _)
        have hnw : ∀ j u, [Value.int .u8 x][j]? = some u → (w4.alloc (.cells #[.int .u8 x] 5)).cell? ((⟨w4.heap.size, 0, none⟩ : Addr).add j) = some u := by
          intro j u hj
          have hj0 : j = 0 := by
            cases j with
            | zero => rfl
            | succ j => simp at hj
          subst hj0
          simp at hj
          subst hj
          simp [Addr.add, go_sem]
        have hs5 : (w4.alloc (.cells #[.int .u8 x] 5)).heap.size = w4.heap.size + 1 := by simp
        clear p0 p1 p2 p3 p4 e0 e1 e2 e3
        clear hR4 hZ4 hT4 HP4 HC4
        generalize (w4.alloc (.cells #[.int .u8 x] 5)) = w5 at *
        refine wpAnyH_ready (rs := [6]) (by kernel_rfl) (by simp) ?_
        refine AllReadyH.cons rfl (fun K hK => ?_) AllReadyH.nil
        by_cases hroom : tl + 1 ≤ tc
        · obtain ⟨gt, hta, hgB, hgl5, _, hcs⟩ := hT5.2.resolve_left (by rintro ⟨_, _, h⟩; omega)
          subst hta
          refine step_append_room rfl (.tmp 50) (.tmp 54) 22 rfl 5 i0 1 Try.underlying22 hi0 hi1 gt 0 tl tc (by simp [Act.eval]) ⟨w4.heap.size, 0, none⟩ 1 1 [.int .u8 x] (by simp [Act.eval]) rfl hnw (by simp [Value.oneCell']) hroom (fun j hj => ?_) ?_
          · obtain rfl : j = 0 := by simpa using hj
            have := hcs tl (by omega)
            simp only [Nat.zero_add, Nat.mul_one, Nat.add_zero]
            obtain ⟨⟨v, hv⟩, hf⟩ := this
            exact ⟨by rw [hv]; rfl, hf⟩
          obtain ⟨hB6, hQ6⟩ := app_room hT5 hroom (by omega) x0 x1
          have hne := hlt gt rfl
          have hR6 := hR5.past hQ6 (by omega)
          have hZ6 := hZ5.past hQ6 (by omega)
          have HP6' := past_other HP5.out hQ6 (by omega)
          have HC6' := HC.out.glue HC5.out HP6' (hQ6.block g HC5.out.lt (by omega))
          have HP6 : Hid (Past g w (w5.setCells gt (0 + tl * 1) [.int .u8 x])) := HP6'
          have HC6 : Hid (Cur (w5.setCells gt (0 + tl * 1) [.int .u8 x]) g a len cap) := HC6'
          clear HP6' HC6' hQ6 hR5 hZ5 hT5 HP5 HC5 hcs hnw
          generalize w5.setCells gt (0 + tl * 1) [.int .u8 x] = w6 at *
          obtain ⟨g', hg'⟩ : ∃ g', g' = gt := ⟨_, rfl⟩
          obtain ⟨c', hc'⟩ : ∃ c', c' = tc := ⟨_, rfl⟩
          rw [← hg', ← hc']
          rw [← hg'] at hB6 hne
          clear hg' hc'
          refine hK.out (Act.put _ (some 55) _) _ trivial (fun hHeld => ?_)
          clear hK K
          simp only [Act.put, List.setIfInBounds_toArray, List.set_cons_zero, List.set_cons_succ]
          obtain ⟨⟨o0, o1, o2, o3, o4⟩, f0, f1, f2, f3⟩ := id hR6
          obtain ⟨⟨p0, p1, p2, p3, p4⟩, e0, e1, e2, e3⟩ := id hZ6
          have HZ := z_set (i := 1) (v := .slice (some ⟨g', 0, none⟩) (tl + 1) c') HC.out HP6.out HC6.out hB6 (fun q hq => by cases hq; exact hne) (by omega) (by omega)
          have HZ' : Hid (Past g w (w6.setCell ⟨w1.heap.size, 1, none⟩ (.slice (some ⟨g', 0, none⟩) (tl + 1) c')) ∧ Cur (w6.setCell ⟨w1.heap.size, 1, none⟩ (.slice (some ⟨g', 0, none⟩) (tl + 1) c')) g a len cap ∧ BTx (w6.setCell ⟨w1.heap.size, 1, none⟩ (.slice (some ⟨g', 0, none⟩) (tl + 1) c')) (w.heap.size + 1) (some ⟨g', 0, none⟩) (tl + 1) (bs ++ [x])) := HZ
          clear HZ hR6 hZ6 hB6
          refine take_at (i := 7) 56 (v := ?v906) rfl rfl (by kernel_rfl) (by kernel_rfl) (by kernel_rfl) (fun _ _ _ h => h) (Or.inl ⟨by rfl, ?y906⟩) (by assumption) ?r906
          case y906 => (intro w hSw; (try dsimp only at hSw); go_simp; (try with_reducible rfl))
          simp only [Act.put, List.setIfInBounds_toArray, List.set_cons_zero, List.set_cons_succ]
          refine wpAnyH_ready (rs := [8]) (by kernel_rfl) (by simp) ?_
          refine AllReadyH.cons rfl (fun K hK => ?_) AllReadyH.nil
          go_simp
          refine hK.out _ _ trivial (fun hHeld => ?_)
          clear hK K
          refine wpAnyH_done (by kernel_rfl) ?_ _
          go_wp2
          refine bodyPost_ret (v := .agg #[.int .i64 k, .slice (some ⟨g', 0, none⟩) (tl + 1) c', .int .i64 n, .int .i64 s]) (by simp [results, Try.results20, go_sem, *]) rfl ?_
          exact bent_end HC.out HZ'.out.1 HZ'.out.2.1 HZ'.out.2.2 (by omega) (Nat.le_refl _) (by omega) hn (by omega) (by omega)
        · refine step_append_grows rfl (.tmp 50) (.tmp 54) 22 rfl 5 i0 (.int .u8 0) 1 1 Try.underlying22 hi0 hi2 hi1 hi3 rfl (by omega) ta tl tc (bs.map (Value.int .u8)) (by simp [Act.eval]) (fun h => ?_) (by simp [hT5.1.1]) (fun b hb j u hj => ?_) ⟨w4.heap.size, 0, none⟩ 1 1 [.int .u8 x] (by simp [Act.eval]) rfl hnw (by simp [Value.oneCell']) (by omega) (by unfold maxLen; omega) (by omega) ?_
          · rcases hT5.2 with ⟨_, h1, h2⟩ | ⟨gt, ht, _⟩
            · exact ⟨h1, h2⟩
            · rw [h] at ht; cases ht
          · exact old_cells hT5 hb hj
          intro v' w6 hown hgr
          obtain ⟨g', c', rfl, hg', hB6', hb6⟩ := app_grow hT5.1 hown hgr (by omega) x0 x1
          have hB6 := hB6'.mono (B' := w.heap.size + 1) (by omega)
          have hne : g' ≠ w1.heap.size := by omega
          have hR6 := hR5.below hb6
          have hZ6 := hZ5.below hb6
          have HP6 : Hid (Past g w w6) := HP5.out.trans (Past.of_below hb6)
          have HC6 : Hid (Cur w6 g a len cap) := HC5.out.below hb6
          clear hown hgr hb6 hB6' hR5 hZ5 hT5 HP5 HC5 hnw
          refine hK.out (Act.put _ (some 55) _) _ trivial (fun hHeld => ?_)
          clear hK K
          simp only [Act.put, List.setIfInBounds_toArray, List.set_cons_zero, List.set_cons_succ]
          obtain ⟨⟨o0, o1, o2, o3, o4⟩, f0, f1, f2, f3⟩ := id hR6
          obtain ⟨⟨p0, p1, p2, p3, p4⟩, e0, e1, e2, e3⟩ := id hZ6
          have HZ := z_set (i := 1) (v := .slice (some ⟨g', 0, none⟩) (tl + 1) c') HC.out HP6.out HC6.out hB6 (fun q hq => by cases hq; exact hne) (by omega) (by omega)
          have HZ' : Hid (Past g w (w6.setCell ⟨w1.heap.size, 1, none⟩ (.slice (some ⟨g', 0, none⟩) (tl + 1) c')) ∧ Cur (w6.setCell ⟨w1.heap.size, 1, none⟩ (.slice (some ⟨g', 0, none⟩) (tl + 1) c')) g a len cap ∧ BTx (w6.setCell ⟨w1.heap.size, 1, none⟩ (.slice (some ⟨g', 0, none⟩) (tl + 1) c')) (w.heap.size + 1) (some ⟨g', 0, none⟩) (tl + 1) (bs ++ [x])) := HZ
          clear HZ hR6 hZ6 hB6
          refine take_at (i := 7) 56 (v := ?v907) rfl rfl (by kernel_rfl) (by kernel_rfl) (by kernel_rfl) (fun _ _ _ h => h) (Or.inl ⟨by rfl, ?y907⟩) (by assumption) ?r907
          case y907 => (intro w hSw; (try dsimp only at hSw); go_simp; (try with_reducible rfl))
          simp only [Act.put, List.setIfInBounds_toArray, List.set_cons_zero, List.set_cons_succ]
          refine wpAnyH_ready (rs := [8]) (by kernel_rfl) (by simp) ?_
          refine AllReadyH.cons rfl (fun K hK => ?_) AllReadyH.nil
          go_simp
          refine hK.out _ _ trivial (fun hHeld => ?_)
          clear hK K
          refine wpAnyH_done (by kernel_rfl) ?_ _
          go_wp2
          refine bodyPost_ret (v := .agg #[.int .i64 k, .slice (some ⟨g', 0, none⟩) (tl + 1) c', .int .i64 n, .int .i64 s]) (by simp [results, Try.results20, go_sem, *]) rfl ?_
          exact bent_end HC.out HZ'.out.1 HZ'.out.2.1 HZ'.out.2.2 (by omega) (Nat.le_refl _) (by omega) hn (by omega) (by omega)
      · go_simp
        refine hK.out _ _ trivial (fun hHeld => ?_)
        clear hK K
        refine wpAnyH_ready (rs := [1]) (by kernel_rfl) (by simp) ?_
        refine AllReadyH.cons rfl (fun K hK => ?_) AllReadyH.nil
        go_simp
        refine hK.out _ _ trivial (fun hHeld => ?_)
        clear hK K
        have hR5 := hR4.below (bl_a (.cells #[.int .u8 x] 5))
        have hZ5 := hZ4.below (bl_a (.cells #[.int .u8 x] 5))
        have hT5 := hT4.below (bl_a (.cells #[.int .u8 x] 5))
        have HP5 : Hid (Past g w (w4.alloc (.cells #[.int .u8 x] 5))) := HP4.out.trans (Past.of_below (bl_a _))
        have HC5 : Hid (Cur (w4.alloc (.cells #[.int .u8 x] 5)) g a len cap) := HC4.out.below (bl_a _)
        have hnw : ∀ j u, [Value.int .u8 x][j]? = some u → (w4.alloc (.cells #[.int .u8 x] 5)).cell? ((⟨w4.heap.size, 0, none⟩ : Addr).add j) = some u := by
          intro j u hj
          have hj0 : j = 0 := by
            cases j with
            | zero => rfl
            | succ j => simp at hj
          subst hj0
          simp at hj
          subst hj
          simp [Addr.add, go_sem]
        have hs5 : (w4.alloc (.cells #[.int .u8 x] 5)).heap.size = w4.heap.size + 1 := by simp
        clear p0 p1 p2 p3 p4 e0 e1 e2 e3
        clear hR4 hZ4 hT4 HP4 HC4
        generalize (w4.alloc (.cells #[.int .u8 x] 5)) = w5 at *
        refine wpAnyH_ready (rs := [6]) (by kernel_rfl) (by simp) ?_
        refine AllReadyH.cons rfl (fun K hK => ?_) AllReadyH.nil
        by_cases hroom : tl + 1 ≤ tc
        · obtain ⟨gt, hta, hgB, hgl5, _, hcs⟩ := hT5.2.resolve_left (by rintro ⟨_, _, h⟩; omega)
          subst hta
          refine step_append_room rfl (.tmp 50) (.tmp 54) 22 rfl 5 i0 1 Try.underlying22 hi0 hi1 gt 0 tl tc (by simp [Act.eval]) ⟨w4.heap.size, 0, none⟩ 1 1 [.int .u8 x] (by simp [Act.eval]) rfl hnw (by simp [Value.oneCell']) hroom (fun j hj => ?_) ?_
          · obtain rfl : j = 0 := by simpa using hj
            have := hcs tl (by omega)
            simp only [Nat.zero_add, Nat.mul_one, Nat.add_zero]
            obtain ⟨⟨v, hv⟩, hf⟩ := this
            exact ⟨by rw [hv]; rfl, hf⟩
          obtain ⟨hB6, hQ6⟩ := app_room hT5 hroom (by omega) x0 x1
          have hne := hlt gt rfl
          have hR6 := hR5.past hQ6 (by omega)
          have hZ6 := hZ5.past hQ6 (by omega)
          have HP6' := past_other HP5.out hQ6 (by omega)
          have HC6' := HC.out.glue HC5.out HP6' (hQ6.block g HC5.out.lt (by omega))
          have HP6 : Hid (Past g w (w5.setCells gt (0 + tl * 1) [.int .u8 x])) := HP6'
          have HC6 : Hid (Cur (w5.setCells gt (0 + tl * 1) [.int .u8 x]) g a len cap) := HC6'
          clear HP6' HC6' hQ6 hR5 hZ5 hT5 HP5 HC5 hcs hnw
          generalize w5.setCells gt (0 + tl * 1) [.int .u8 x] = w6 at *
          obtain ⟨g', hg'⟩ : ∃ g', g' = gt := ⟨_, rfl⟩
          obtain ⟨c', hc'⟩ : ∃ c', c' = tc := ⟨_, rfl⟩
          rw [← hg', ← hc']
          rw [← hg'] at hB6 hne
          clear hg' hc'
          refine hK.out (Act.put _ (some 55) _) _ trivial (fun hHeld => ?_)
          clear hK K
          simp only [Act.put, List.setIfInBounds_toArray, List.set_cons_zero, List.set_cons_succ]
          obtain ⟨⟨o0, o1, o2, o3, o4⟩, f0, f1, f2, f3⟩ := id hR6
          obtain ⟨⟨p0, p1, p2, p3, p4⟩, e0, e1, e2, e3⟩ := id hZ6
          have HZ := z_set (i := 1) (v := .slice (some ⟨g', 0, none⟩) (tl + 1) c') HC.out HP6.out HC6.out hB6 (fun q hq => by cases hq; exact hne) (by omega) (by omega)
          have HZ' : Hid (Past g w (w6.setCell ⟨w1.heap.size, 1, none⟩ (.slice (some ⟨g', 0, none⟩) (tl + 1) c')) ∧ Cur (w6.setCell ⟨w1.heap.size, 1, none⟩ (.slice (some ⟨g', 0, none⟩) (tl + 1) c')) g a len cap ∧ BTx (w6.setCell ⟨w1.heap.size, 1, none⟩ (.slice (some ⟨g', 0, none⟩) (tl + 1) c')) (w.heap.size + 1) (some ⟨g', 0, none⟩) (tl + 1) (bs ++ [x])) := HZ
          clear HZ hR6 hZ6 hB6
          refine take_at (i := 7) 56 (v := ?v908) rfl rfl (by kernel_rfl) (by kernel_rfl) (by kernel_rfl) (fun _ _ _ h => h) (Or.inl ⟨by rfl, ?y908⟩) (by assumption) ?r908
          case y908 => (intro w hSw; (try dsimp only at hSw); go_simp; (try with_reducible rfl))
          simp only [Act.put, List.setIfInBounds_toArray, List.set_cons_zero, List.set_cons_succ]
          refine wpAnyH_ready (rs := [8]) (by kernel_rfl) (by simp) ?_
          refine AllReadyH.cons rfl (fun K hK => ?_) AllReadyH.nil
          go_simp
          refine hK.out _ _ trivial (fun hHeld => ?_)
          clear hK K
          refine wpAnyH_done (by kernel_rfl) ?_ _
          go_wp2
          refine bodyPost_ret (v := .agg #[.int .i64 k, .slice (some ⟨g', 0, none⟩) (tl + 1) c', .int .i64 n, .int .i64 s]) (by simp [results, Try.results20, go_sem, *]) rfl ?_
          exact bent_end HC.out HZ'.out.1 HZ'.out.2.1 HZ'.out.2.2 (by omega) (Nat.le_refl _) (by omega) hn (by omega) (by omega)
        · refine step_append_grows rfl (.tmp 50) (.tmp 54) 22 rfl 5 i0 (.int .u8 0) 1 1 Try.underlying22 hi0 hi2 hi1 hi3 rfl (by omega) ta tl tc (bs.map (Value.int .u8)) (by simp [Act.eval]) (fun h => ?_) (by simp [hT5.1.1]) (fun b hb j u hj => ?_) ⟨w4.heap.size, 0, none⟩ 1 1 [.int .u8 x] (by simp [Act.eval]) rfl hnw (by simp [Value.oneCell']) (by omega) (by unfold maxLen; omega) (by omega) ?_
          · rcases hT5.2 with ⟨_, h1, h2⟩ | ⟨gt, ht, _⟩
            · exact ⟨h1, h2⟩
            · rw [h] at ht; cases ht
          · exact old_cells hT5 hb hj
          intro v' w6 hown hgr
          obtain ⟨g', c', rfl, hg', hB6', hb6⟩ := app_grow hT5.1 hown hgr (by omega) x0 x1
          have hB6 := hB6'.mono (B' := w.heap.size + 1) (by omega)
          have hne : g' ≠ w1.heap.size := by omega
          have hR6 := hR5.below hb6
          have hZ6 := hZ5.below hb6
          have HP6 : Hid (Past g w w6) := HP5.out.trans (Past.of_below hb6)
          have HC6 : Hid (Cur w6 g a len cap) := HC5.out.below hb6
          clear hown hgr hb6 hB6' hR5 hZ5 hT5 HP5 HC5 hnw
          refine hK.out (Act.put _ (some 55) _) _ trivial (fun hHeld => ?_)
          clear hK K
          simp only [Act.put, List.setIfInBounds_toArray, List.set_cons_zero, List.set_cons_succ]
          obtain ⟨⟨o0, o1, o2, o3, o4⟩, f0, f1, f2, f3⟩ := id hR6
          obtain ⟨⟨p0, p1, p2, p3, p4⟩, e0, e1, e2, e3⟩ := id hZ6
          have HZ := z_set (i := 1) (v := .slice (some ⟨g', 0, none⟩) (tl + 1) c') HC.out HP6.out HC6.out hB6 (fun q hq => by cases hq; exact hne) (by omega) (by omega)
          have HZ' : Hid (Past g w (w6.setCell ⟨w1.heap.size, 1, none⟩ (.slice (some ⟨g', 0, none⟩) (tl + 1) c')) ∧ Cur (w6.setCell ⟨w1.heap.size, 1, none⟩ (.slice (some ⟨g', 0, none⟩) (tl + 1) c')) g a len cap ∧ BTx (w6.setCell ⟨w1.heap.size, 1, none⟩ (.slice (some ⟨g', 0, none⟩) (tl + 1) c')) (w.heap.size + 1) (some ⟨g', 0, none⟩) (tl + 1) (bs ++ [x])) := HZ
          clear HZ hR6 hZ6 hB6
          refine take_at (i := 7) 56 (v := ?v909) rfl rfl (by kernel_rfl) (by kernel_rfl) (by kernel_rfl) (fun _ _ _ h => h) (Or.inl ⟨by rfl, ?y909⟩) (by assumption) ?r909
          case y909 => (intro w hSw; (try dsimp only at hSw); go_simp; (try with_reducible rfl))
          simp only [Act.put, List.setIfInBounds_toArray, List.set_cons_zero, List.set_cons_succ]
          refine wpAnyH_ready (rs := [8]) (by kernel_rfl) (by simp) ?_
          refine AllReadyH.cons rfl (fun K hK => ?_) AllReadyH.nil
          go_simp
          refine hK.out _ _ trivial (fun hHeld => ?_)
          clear hK K
          refine wpAnyH_done (by kernel_rfl) ?_ _
          go_wp2
          refine bodyPost_ret (v := .agg #[.int .i64 k, .slice (some ⟨g', 0, none⟩) (tl + 1) c', .int .i64 n, .int .i64 s]) (by simp [results, Try.results20, go_sem, *]) rfl ?_
          exact bent_end HC.out HZ'.out.1 HZ'.out.2.1 HZ'.out.2.2 (by omega) (Nat.le_refl _) (by omega) hn (by omega) (by omega)
  · obtain rfl : y = 4 := by omega
    clear PI BY hT3
    go_wp2_with fail
    refine (B _ 2 hC3 (by omega) (by omega)).mono ?_
    rintro e w4 ⟨m, rfl, hm, hP4, hC4⟩
    have hmk : ∀ w, (Instr.makeSlice 22 (.int .i64 (30 + (m : Int))) (.int .i64 (30 + (m : Int)))).run Try.prog w = .ok (.slice (some ⟨w.heap.size, 0, none⟩) (30 + m) (30 + m)) (w.alloc (.cells (madeCells #[Value.int .u8 0] (30 + m)) 5)) := by
      have h := run_make_row' (P := Try.prog) 22 5 (.int .u8 0) 1 Try.underlying22 Try.info5 rfl .i64 .i64 (30 + m) (by omega) (by omega)
      intro w
      have h' := h w
      rwa [Int.natCast_add] at h'
    have hR4 := (hR3.past hP4 (by omega)).below (bl_a (.cells (madeCells #[Value.int .u8 0] (30 + m)) 5))
    have hZ4 := (hZ3.past hP4 (by omega)).below (bl_a (.cells (madeCells #[Value.int .u8 0] (30 + m)) 5))
    have hs4 := hP4.size
    have HP4 : Hid (Past g w (w4.alloc (.cells (madeCells #[Value.int .u8 0] (30 + m)) 5))) := (HP3.out.trans hP4).trans (Past.of_below (bl_a _))
    have HC4 : Hid (Cur (w4.alloc (.cells (madeCells #[Value.int .u8 0] (30 + m)) 5)) g a len cap) := hC4.below (bl_a _)
    have HM : Hid (Ok8 (w4.alloc (.cells (madeCells #[Value.int .u8 0] (30 + m)) 5)) w4.heap.size (30 + m)) := Ok8.made w4 (30 + m) 5
    have hsz5 : (w4.alloc (.cells (madeCells #[Value.int .u8 0] (30 + m)) 5)).heap.size = w4.heap.size + 1 := by simp
    clear B hP4 hC4 hR3 hZ3 hB3 HP3 hC3
    obtain ⟨⟨p0, p1, p2, p3, p4⟩, e0, e1, e2, e3⟩ := id hZ4
    go_wp2_with fail
    have hR5 := hR4.past (z_past (z := w1.heap.size) (i := 1) (v := .slice (some ⟨w4.heap.size, 0, none⟩) (30 + m) (30 + m))) (by omega)
    have hZ5 := z_own (v := .slice (some ⟨w4.heap.size, 0, none⟩) (30 + m) (30 + m)) hZ4
    have HP5' := HP4.out.set_new (p := ⟨w1.heap.size, 1, none⟩) (by show w.heap.size ≤ w1.heap.size; omega) (.slice (some ⟨w4.heap.size, 0, none⟩) (30 + m) (30 + m))
    have HC5' := HC.out.glue HC4.out HP5' (z_past.block g HC4.out.lt (by omega))
    have HM5' := HM.out.past (z_past (z := w1.heap.size) (i := 1) (v := .slice (some ⟨w4.heap.size, 0, none⟩) (30 + m) (30 + m))) (show w1.heap.size ≠ w4.heap.size by omega)
    have hs5 : ((w4.alloc (.cells (madeCells #[Value.int .u8 0] (30 + m)) 5)).setCell ⟨w1.heap.size, 1, none⟩ (.slice (some ⟨w4.heap.size, 0, none⟩) (30 + m) (30 + m))).heap.size = w4.heap.size + 1 := by simp
    have HP5 : Hid (Past g w ((w4.alloc (.cells (madeCells #[Value.int .u8 0] (30 + m)) 5)).setCell ⟨w1.heap.size, 1, none⟩ (.slice (some ⟨w4.heap.size, 0, none⟩) (30 + m) (30 + m)))) := HP5'
    have HC5 : Hid (Cur ((w4.alloc (.cells (madeCells #[Value.int .u8 0] (30 + m)) 5)).setCell ⟨w1.heap.size, 1, none⟩ (.slice (some ⟨w4.heap.size, 0, none⟩) (30 + m) (30 + m))) g a len cap) := HC5'
    have HM5 : Hid (Ok8 ((w4.alloc (.cells (madeCells #[Value.int .u8 0] (30 + m)) 5)).setCell ⟨w1.heap.size, 1, none⟩ (.slice (some ⟨w4.heap.size, 0, none⟩) (30 + m) (30 + m))) w4.heap.size (30 + m)) := HM5'
    clear HP5' HC5' HM5' HP4 HC4 HM hR4 hZ4 hmk hsz5 p0 p1 p2 p3 p4 e0 e1 e2 e3
    generalize (w4.alloc (.cells (madeCells #[Value.int .u8 0] (30 + m)) 5)).setCell ⟨w1.heap.size, 1, none⟩ (.slice (some ⟨w4.heap.size, 0, none⟩) (30 + m) (30 + m)) = w5 at *
    go_loopw [4] (fun i wr => ∃ j : Nat, j ≤ 30 + m ∧ i = .int .i64 j ∧ wr.heap.size = w4.heap.size + 1 ∧ Own4 wr w.heap.size (.int .i64 0) (.slice none 0 0) (.int .i64 0) (.int .i64 0) ∧ Own4 wr w1.heap.size (.int .i64 k) (.slice (some ⟨w4.heap.size, 0, none⟩) (30 + m) (30 + m)) (.int .i64 n) (.int .i64 s) ∧ Hid (Past g w wr) ∧ Hid (Cur wr g a len cap) ∧ Hid (Ok8 wr w4.heap.size (30 + m)) ∧ Hid (∀ i, i < j → wr.cell? ⟨w4.heap.size, i, none⟩ = some (.int .u8 122)))
      (fun i _ => 30 + m - (intOf i).toNat)
    case atStart => exact ⟨0, Nat.zero_le _, rfl, hs5, hR5, hZ5, HP5, HC5, HM5, fun i hi => by omega⟩
    case round =>
      obtain ⟨j, hj, rfl, hsr, hRr, hZr, HPr, HCr, HMr, HF⟩ := hrel
      clear hR5 hZ5 HP5 HC5 HM5
      obtain ⟨⟨p0, p1, p2, p3, p4⟩, e0, e1, e2, e3⟩ := id hZr
      by_cases hlj : j < 30 + m
      · obtain ⟨⟨v, hv⟩, hfv⟩ := HMr.out j hlj
        go_wp2
        go_roundw
        case rel =>
          have hQ : Past w4.heap.size wr (wr.setCell ⟨w4.heap.size, j, none⟩ (.int .u8 122)) := (Past.refl _ _).set j _
          have hP' := HPr.out.set_new (p := ⟨w4.heap.size, j, none⟩) (by show w.heap.size ≤ w4.heap.size; omega) (.int .u8 122)
          refine ⟨j + 1, by omega, by go_num, by simpa using hsr, hRr.past hQ (by omega), hZr.past hQ (by omega), hP', HC.out.glue HCr.out hP' (hQ.block g HCr.out.lt (by omega)), HMr.out.set j 122, fun i hi => ?_⟩
          by_cases e : i = j
          · subst e; exact set_same hv
          · rw [set_other e]; exact HF.out i (by omega)
        case measure => simp [intOf]; omega
      · obtain rfl : j = 30 + m := by omega
        obtain ⟨⟨o0, o1, o2, o3, o4⟩, f0, f1, f2, f3⟩ := id hRr
        have HB : Hid (BTx wr (w.heap.size + 1) (some ⟨w4.heap.size, 0, none⟩) (30 + m) (List.replicate (30 + m) 122)) := BTx.fill HF.out (by omega) (by omega) (by omega)
        clear HF HMr hRr hZr
        go_wp2
        refine bodyPost_ret (v := .agg #[.int .i64 k, .slice (some ⟨w4.heap.size, 0, none⟩) (30 + m) (30 + m), .int .i64 n, .int .i64 s]) (by simp [results, Try.results20, go_sem, *]) rfl ?_
        exact bent_end HC.out HPr.out HCr.out HB.out (by omega) (Nat.le_refl _) (by omega) hn (by omega) (by omega)
end Go.Proofs.Ytidhcbjhggdncaa
