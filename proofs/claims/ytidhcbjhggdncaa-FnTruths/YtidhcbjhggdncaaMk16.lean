/- Texts put together: TbR TbS TvP TvQ TvR -/
import Derived.Test.YtidhcbjhggdncaaMk06
import Derived.Test.YtidhcbjhggdncaaMk03
import Derived.Test.YtidhcbjhggdncaaMk15
import Derived.Test.YtidhcbjhggdncaaMk14
/- TbR -/
namespace Go.Proofs.Ytidhcbjhggdncaa
open Go.RowKit Go.Deep
set_option maxRecDepth 100000

theorem wpr_at {P : Program} {ops : Array Oper} {rest : List Oper} {op : Oper} {a : Act} {w : World} {Q : Exit → Act → World → Prop} (h : wpList P ops Q (op :: rest) a w) : wpList P ops Q (op :: rest) a w := h
end Go.Proofs.Ytidhcbjhggdncaa

/- TbS -/
namespace Go.Proofs.Ytidhcbjhggdncaa
open Go.RowKit Go.Deep
set_option maxRecDepth 100000

/-- A solution of two cells that was drawn: its cells lie in the block G. -/
structure S2 (w : World) (B G : Nat) (f : Nat → CB) : Prop where
  lo : B ≤ G
  ob : OB w G ((f 0).cells ++ (f 1).cells)
  tx : ∀ j, j < 2 → (f j).lies B w
theorem OB.past {w w' : World} {g b : Nat} {L : List Value} (h : OB w b L) (hp : Past g w w') (hne : b ≠ g) : OB w' b L := ⟨Nat.lt_of_lt_of_le h.1 hp.size, fun c u hu => ⟨(hp.cell (p := ⟨b, c, none⟩) h.1 hne).trans (h.2 c u hu).1, (hp.frozen (p := ⟨b, c, none⟩) h.1 hne).trans (h.2 c u hu).2⟩⟩
theorem Bs.past' {w w' : World} {g len : Nat} {a : Option Addr} {bs : List Int} (h : Bs w a len bs) (hp : Past g w w') (hne : len = 0 ∨ ∀ p, a = some p → p.block ≠ g) : Bs w' a len bs := by
  obtain ⟨h1, h2, h3, h4⟩ := h
  refine ⟨h1, h2, h3, ?_⟩
  rcases h4 with h4 | ⟨b, off, ha, hlt, hc⟩
  · exact .inl h4
  rcases hne with h0 | hne
  · exact .inl h0
  exact .inr ⟨b, off, ha, Nat.lt_of_lt_of_le hlt hp.size, fun i hi => (hp.cell (p := ⟨b, off + i, none⟩) hlt (hne ⟨b, off, none⟩ ha)).trans (hc i hi)⟩
theorem BsF.past {w w' : World} {B g : Nat} {x : SL} (h : BsF B w x) (hp : Past g w w') (hg : g < B) : BsF B w' x := ⟨h.1.past' hp (h.2.imp id fun k p hpp => by have := k p hpp; omega), h.2⟩
theorem CB.lies.past {w w' : World} {B g : Nat} {x : CB} (h : x.lies B w) (hp : Past g w w') (hg : g < B) : x.lies B w' := ⟨h.1.past hp hg, h.2⟩
theorem S2.past {w w' : World} {B G g : Nat} {f : Nat → CB} (h : S2 w B G f) (hp : Past g w w') (hg : g < B) : S2 w' B G f := ⟨h.lo, h.ob.past hp (by have := h.lo; omega), fun j hj => (h.tx j hj).past hp hg⟩
theorem S2.below {w w' : World} {B G : Nat} {f : Nat → CB} (h : S2 w B G f) (hb : Below w.heap.size w w') : S2 w' B G f := ⟨h.lo, h.ob.below hb, fun j hj => ⟨⟨(h.tx j hj).1.1.below hb, (h.tx j hj).1.2⟩, (h.tx j hj).2⟩⟩
/-- Writing a cell of other kinds than a byte leaves texts alone. -/
theorem Bs.set {w : World} {g i len : Nat} {a : Option Addr} {bs : List Int} {u v : Value} (h : Bs w a len bs) (hu : w.cell? ⟨g, i, none⟩ = some u) (hn : ∀ z, u ≠ .int .u8 z) : Bs (w.setCell ⟨g, i, none⟩ v) a len bs := by
  obtain ⟨h1, h2, h3, h4⟩ := h
  refine ⟨h1, h2, h3, ?_⟩
  rcases h4 with h4 | ⟨b, off, ha, hlt, hc⟩
  · exact .inl h4
  refine .inr ⟨b, off, ha, by simpa using hlt, fun k hk => ?_⟩
  have hck := hc k hk
  by_cases e : b = g ∧ off + k = i
  · obtain ⟨rfl, rfl⟩ := e
    rw [hu] at hck
    exact absurd (Option.some.inj hck) (hn _)
  · by_cases hb : b = g
    · subst hb
      rw [set_other (fun e' => e ⟨rfl, e'⟩)]
      exact hck
    · rw [World.cell?_of_block (w := w) (Below.heap_setCell _ _ _ _ hb)]
      exact hck
theorem Bs.sets {g len : Nat} {a : Option Addr} {bs : List Int} : ∀ (vs : List Value) (o : Nat) {w : World} {L : List Value}, Bs w a len bs → OB w g L → (∀ j, o ≤ j → j < o + vs.length → ∃ u, L[j]? = some u ∧ ∀ z, u ≠ .int .u8 z) → Bs (w.setCells g o vs) a len bs
  | [], _, _, _, h, _, _ => h
  | v :: r, o, w, L, h, ho, hk => by
    obtain ⟨u, hu, hn⟩ := hk o (Nat.le_refl _) (by simp)
    refine Bs.sets r (o + 1) (h.set (ho.2 o u hu).1 hn) (ho.set o v) fun j h1 h2 => ?_
    obtain ⟨u', hu', hn'⟩ := hk j (by omega) (by simp only [List.length_cons]; omega)
    exact ⟨u', by rw [List.getElem?_set, if_neg (by omega)]; exact hu', hn'⟩
theorem cb_kind (x : CB) (c : Nat) (u : Value) (h : x.cells[c]? = some u) : ∀ z, u ≠ .int .u8 z := by
  intro z hz
  subst hz
  simp only [CB.cells] at h
  rcases (by omega : c = 0 ∨ c = 1 ∨ c = 2 ∨ c = 3 ∨ c = 4 ∨ 5 ≤ c) with rfl | rfl | rfl | rfl | rfl | h5
  all_goals first | (simp at h; done) | skip
  rw [List.getElem?_eq_none (by simpa using h5)] at h
  cases h
theorem two_kind (x y : CB) (c : Nat) (hc : c < 10) : ∃ u, (x.cells ++ y.cells)[c]? = some u ∧ ∀ z, u ≠ .int .u8 z := by
  have hx : x.cells.length = 5 := rfl
  have hy : y.cells.length = 5 := rfl
  have hl : c < (x.cells ++ y.cells).length := by rw [List.length_append]; omega
  refine ⟨_, List.getElem?_eq_getElem hl, ?_⟩
  have e := List.getElem?_eq_getElem hl
  by_cases h5 : c < 5
  · rw [List.getElem?_append_left (by omega)] at e
    exact cb_kind x c _ e
  · rw [List.getElem?_append_right (by omega)] at e
    exact cb_kind y _ _ e
/-- Putting the cell j anew. -/
theorem S2.put {w : World} {B G : Nat} {f : Nat → CB} (h : S2 w B G f) (k : Nat) (hk : k < 2) (x : CB) (hx : x.lies B w) : S2 (w.setCells G (k * 5) x.cells) B G (fun j => if j = k then x else f j) := by
  have hkind : ∀ c, k * 5 ≤ c → c < k * 5 + x.cells.length → ∃ u, ((f 0).cells ++ (f 1).cells)[c]? = some u ∧ ∀ z, u ≠ .int .u8 z := fun c _ h2 => two_kind _ _ c (by have : x.cells.length = 5 := rfl; omega)
  have tx : ∀ y : CB, y.lies B w → y.lies B (w.setCells G (k * 5) x.cells) := fun y hy => ⟨⟨Bs.sets _ _ hy.1.1 h.ob hkind, hy.1.2⟩, hy.2⟩
  refine ⟨h.lo, ?_, fun j hj => ?_⟩
  · have ho := h.ob.sets x.cells (k * 5)
    rcases (by omega : k = 0 ∨ k = 1) with rfl | rfl
    · exact ho
    · exact ho
  · show CB.lies B _ (if j = k then x else f j)
    split
    · exact tx x hx
    · exact tx _ (h.tx j hj)
end Go.Proofs.Ytidhcbjhggdncaa

/- TvP -/
namespace Go.Proofs.Ytidhcbjhggdncaa
open Go.RowKit Go.Deep
set_option maxRecDepth 100000

/-- The names that are drawn. -/
def NM : List (List Int) := [[120], [121], [122], [119]]
/-- A drawn expression: so many levels at most, few kids, drawn names. -/
def lvE : ET → Nat → Prop
  | .nil, _ => False
  | .mk d kid, n => 0 < n ∧ d.n ≤ 5 ∧ (d.v.b = [] ∨ d.v.b ∈ NM) ∧ ∀ i, i < d.n → lvE (kid i) (n - 1)
/-- The kids' row is the draw's own. -/
def OwnK (w : World) (B : Nat) (x : ET) : Prop := ∃ L : List ET, L.length = x.d.n ∧ x.kid = (fun i => L[i]?.getD .nil) ∧ w.ownsRow B 29 8 (.slice x.d.ka x.d.n x.d.kc) L.length ((L.map fun e => e.d.cells).flatten) ∧ x.d.kc = x.d.n ∧ x.d.n ≤ 4
theorem ownsRow_keep {w w' : World} {B sz n : Nat} {t : TypeId} {v : Value} {xs : List Value} (h : w.ownsRow B t sz v n xs) (hb : ∀ g, B ≤ g → g < w.heap.size → w'.heap[g]? = w.heap[g]?) : w'.ownsRow B t sz v n xs := by
  obtain ⟨h1, h2⟩ := h
  refine ⟨h1, h2.imp id ?_⟩
  rintro ⟨g, cap, cur, hv, hB, hh, r⟩
  exact ⟨g, cap, cur, hv, hB, (hb g hB (Array.getElem?_eq_some_iff.1 hh).1).trans hh, r⟩
theorem ownsRow_base {w : World} {B B' sz n : Nat} {t : TypeId} {v : Value} {xs : List Value} (h : w.ownsRow B t sz v n xs) (hB : B' ≤ B) : w.ownsRow B' t sz v n xs := by
  obtain ⟨h1, h2⟩ := h
  refine ⟨h1, h2.imp id ?_⟩
  rintro ⟨g, cap, cur, hv, hb, r⟩
  exact ⟨g, cap, cur, hv, Nat.le_trans hB hb, r⟩
theorem OwnK.keep {w w' : World} {B : Nat} {x : ET} (h : OwnK w B x) (hb : ∀ g, B ≤ g → g < w.heap.size → w'.heap[g]? = w.heap[g]?) : OwnK w' B x := by
  obtain ⟨L, h1, h2, h3, h4⟩ := h
  exact ⟨L, h1, h2, ownsRow_keep h3 hb, h4⟩
theorem OwnK.base {w : World} {B B' : Nat} {x : ET} (h : OwnK w B x) (hB : B' ≤ B) : OwnK w B' x := by
  obtain ⟨L, h1, h2, h3, h4⟩ := h
  exact ⟨L, h1, h2, ownsRow_base h3 hB, h4⟩
theorem OwnK.leaf (w : World) (B : Nat) (k op : Int) (v : SL) (t : TB) : OwnK w B (.mk ⟨k, op, v, t, none, 0, 0⟩ (fun _ => .nil)) := ⟨[], rfl, rfl, World.ownsRow_nil _ _ _ _, rfl, Nat.zero_le _⟩
/-- What a draw of an expression answers. -/
def ExprDrawn (g : Nat) (a : Option Addr) (len cap n : Nat) (w : World) (e : Ending) (w' : World) : Prop := ∃ x : ET, e = .returned (.agg #[.int .i64 x.d.k, .int .i64 x.d.op, .slice x.d.v.a x.d.v.len x.d.v.cap, .int .i64 x.d.t.t.k, .slice x.d.t.t.a x.d.t.t.len x.d.t.t.cap, .int .i64 x.d.t.t.n, .int .i64 x.d.t.t.s, .slice x.d.ka x.d.n x.d.kc]) ∧ x.lies w.heap.size w' ∧ lvE x n ∧ Past g w w' ∧ Cur w' g a len cap ∧ OwnK w' w.heap.size x
def NameDrawn (g : Nat) (a : Option Addr) (len cap : Nat) (w : World) (e : Ending) (w' : World) : Prop := ∃ y : SL, e = .returned (.slice y.a y.len y.cap) ∧ y.b ∈ NM ∧ BsF w.heap.size w' y ∧ Past g w w' ∧ Cur w' g a len cap
theorem Past.upper {g B : Nat} {w w' : World} (h : Past g w w') (hB : g < B) : Upper B w w' := ⟨h.size, fun b h1 h2 => h.block b h2 (by omega)⟩
/-- Within l4drawExpr: the answer's box is open. -/
structure DM (w W : World) (g : Nat) (a : Option Addr) (len cap : Nat) : Prop where
  p : Past g w W
  c : Cur W g a len cap
  r : OB W w.heap.size [.int .i64 0, .int .i64 0, .slice none 0 0, .int .i64 0, .slice none 0 0, .int .i64 0, .int .i64 0, .slice none 0 0]
  g : g < w.heap.size
theorem DM.past {w W W' : World} {g : Nat} {a : Option Addr} {len cap : Nat} (h : DM w W g a len cap) (hp : Past g W W') (hc : Cur W' g a len cap) : DM w W' g a len cap := ⟨h.p.trans hp, hc, h.r.past hp (by have := h.g; omega), h.g⟩
theorem DM.below {w W W' : World} {g : Nat} {a : Option Addr} {len cap : Nat} (h : DM w W g a len cap) (hb : Below W.heap.size W W') : DM w W' g a len cap := h.past (Past.of_below hb) (h.c.below hb)
theorem DM.new {w : World} {g : Nat} {a : Option Addr} {len cap : Nat} (hC : Cur w g a len cap) (t : TypeId) : DM w (w.alloc (.cells #[.int .i64 0, .int .i64 0, .slice none 0 0, .int .i64 0, .slice none 0 0, .int .i64 0, .int .i64 0, .slice none 0 0] t)) g a len cap := ⟨Past.of_below (bl_a _), hC.below (bl_a _), OB.new w #[.int .i64 0, .int .i64 0, .slice none 0 0, .int .i64 0, .slice none 0 0, .int .i64 0, .int .i64 0, .slice none 0 0] t, hC.lt⟩
theorem past_setsV {g G : Nat} {w : World} : ∀ (vs : List Value) (o : Nat) {W : World}, Past g w W → w.heap.size ≤ G → Past g w (W.setCells G o vs)
  | [], _, _, h, _ => h
  | v :: r, o, _, h, hG => past_setsV r (o + 1) (h.set_new (p := ⟨G, o, none⟩) hG v) hG
theorem de_end {w W : World} {g : Nat} {a : Option Addr} {len cap n : Nat} (hC : Cur w g a len cap) (h : DM w W g a len cap) (x : ET) (hl : x.lies (w.heap.size + 1) W) (hx : lvE x n) (hO : OwnK W (w.heap.size + 1) x) (cs : List Value) :
    ∀ r, r = Ending.returned (.agg #[.int .i64 x.d.k, .int .i64 x.d.op, .slice x.d.v.a x.d.v.len x.d.v.cap, .int .i64 x.d.t.t.k, .slice x.d.t.t.a x.d.t.t.len x.d.t.t.cap, .int .i64 x.d.t.t.n, .int .i64 x.d.t.t.s, .slice x.d.ka x.d.n x.d.kc]) → ExprDrawn g a len cap n w r (W.setCells w.heap.size 0 cs) := by
  rintro _ rfl
  have hp := past_setsV cs 0 h.p (Nat.le_refl _)
  have hb := but_sets w.heap.size cs 0 W
  exact ⟨x, rfl, (ET.lies.upper (upper_sets w.heap.size cs 0 W) hl).base (Nat.le_succ _), hx, hp, hC.glue h.c hp (hb.block g (by have := h.g; omega)), (hO.keep fun c hc _ => hb.block c (by omega)).base (Nat.le_succ _)⟩
theorem bsf0 (B : Nat) (w : World) : BsF B w ⟨none, 0, 0, []⟩ := by
  refine ⟨⟨rfl, Nat.zero_le _, fun i => ?_, .inl rfl⟩, .inl rfl⟩
  show 0 ≤ ([] : List Int)[i]?.getD 0 ∧ ([] : List Int)[i]?.getD 0 ≤ 255
  simp
theorem fits0 : (⟨0, none, 0, 0, 0, 0⟩ : Tm).fits := ⟨by decide, by decide, by decide, by decide⟩
theorem Tx.bsfV {w : World} {B B' : Nat} {a : Option Addr} {len cap : Nat} {bs : List Int} (h : Tx w B a len cap bs) (hB : B' ≤ B) : BsF B' w ⟨a, len, cap, bs⟩ := by
  refine ⟨h.1, ?_⟩
  rcases h.2 with ⟨_, h0, _⟩ | ⟨g, ha, hg, _⟩
  · exact .inl h0
  · exact .inr fun p hp => by
      have e : some p = some ⟨g, 0, none⟩ := hp.symm.trans ha
      cases e
      exact Nat.le_trans hB hg
set_option maxHeartbeats 2000000 in
theorem l4name_any (g : Nat) (a : Option Addr) (len cap : Nat) (w : World) (hlen : len ≤ 9223372036854775807) (hC : Cur w g a len cap) : Calls Try.prog 41 #[.pointer (some ⟨g, 0, none⟩)] w (NameDrawn g a len cap w) := by
  have hcv := fun (w : World) (s : ByteArray) => Lib.run_convert_string_bytes (P := Try.prog) w 9 22 5 s Try.underlying9 Try.underlying22 Try.underlying5
  have B := hid (fun W (h : Cur W g a len cap) => l1Below_any g a len cap 4 W hlen h (by omega) (by omega))
  have HC := hid hC
  have hgl := hC.lt
  clear hC
  go_in
  go_wp2_with fail
  refine (B.out _ (HC.out.below (bl_a _))).mono ?_
  rintro e w2 ⟨y, rfl, hy, hP2, hC2⟩
  have hcl := hP2.cell (p := ⟨w.heap.size, y, none⟩) (by simp) (show w.heap.size ≠ g by omega)
  obtain ⟨t, ht, hn, hct⟩ : ∃ t : ByteArray, t.size ≤ 100 ∧ numsOf t ∈ NM ∧ w2.cell? ⟨w.heap.size, y, none⟩ = some (.string t) := by
    have hyy : y = 0 ∨ y = 1 ∨ y = 2 ∨ y = 3 := by omega
    rcases hyy with rfl | rfl | rfl | rfl
    all_goals
      simp [go_sem] at hcl
      exact ⟨_, by decide, by decide, hcl⟩
  have HP := hid ((Past.of_below (g := g) (bl_a (w := w) _)).trans hP2)
  have HC2 := hid hC2
  have HN := hid hn
  have hs2 := hP2.size
  simp at hs2
  clear hP2 hC2 hcl B hn
  go_wp2
  go_ret
  exact ⟨⟨_, _, _, numsOf t⟩, rfl, HN.out, (Tx.conv w2 t _ (by omega)).bsfV (by omega), HP.out.trans (Past.of_below (bytesWorld_below _ _ _)), HC2.out.below (bytesWorld_below _ _ _)⟩
end Go.Proofs.Ytidhcbjhggdncaa

/- TvQ -/
namespace Go.Proofs.Ytidhcbjhggdncaa
open Go.RowKit Go.Deep
set_option maxRecDepth 100000

set_option maxHeartbeats 4000000 in
theorem draw_0 (g : Nat) (a : Option Addr) (len cap n : Nat) (w : World) (hlen : len ≤ 9223372036854775807) (hC : Cur w g a len cap) : Calls Try.prog 16 #[.pointer (some ⟨g, 0, none⟩), .int .i64 0] w (ExprDrawn g a len cap (n + 1) w) := by
  have O := hid (fun W (n : Nat) (h : Cur W g a len cap) (h1 : 1 ≤ n) (h2 : n ≤ 256) => l1Once_any g a len cap n W hlen h h1 h2)
  have LT := hid (fun W (h : Cur W g a len cap) => l1term_any g a len cap W hlen h)
  have LN := hid (fun W (h : Cur W g a len cap) => l4name_any g a len cap W hlen h)
  have HM := hid (DM.new hC 29)
  have HC := hid hC
  clear hC
  go_in
  go_upto_region 1 with fail
  generalize (w.alloc (.cells #[.int .i64 0, .int .i64 0, .slice none 0 0, .int .i64 0, .slice none 0 0, .int .i64 0, .int .i64 0, .slice none 0 0] 29)) = W1 at *
  go_wp2_with fail
  refine (O.out _ 2 HM.out.c (by omega) (by omega)).mono ?_
  rintro e w8 ⟨p8, rfl, hP8, hC8⟩
  have HM8 := hid (HM.out.past hP8 hC8)
  clear hP8 hC8 HM
  cases p8 with
  | true =>
    go_wp2_with fail
    refine (LT.out _ HM8.out.c).mono ?_
    rintro e w9 ⟨⟨tk, tn, ts, ta, tl, tc, bs, rfl, hn, hs, _, hT⟩, hP9, hC9⟩
    have HM9 := hid (HM8.out.past hP9 hC9)
    have HL : Hid ((ET.mk ⟨1, 0, ⟨none, 0, 0, []⟩, ⟨⟨tk, ta, tl, tc, tn, ts⟩, bs⟩, none, 0, 0⟩ (fun _ => .nil)).lies (w.heap.size + 1) w9) := ⟨bsf0 _ _, hT.bsfV HM8.out.r.1, ⟨hn.1, hn.2, by have := hs.1; show -9223372036854775808 ≤ ts; omega, by have := hs.2; show ts ≤ 9223372036854775807; omega⟩, Nat.zero_le _, .inl rfl, fun i hi => absurd hi (Nat.not_lt_zero _)⟩
    clear hP9 hC9 HM8 hT hn hs
    have st : w9.there w.heap.size 0 8 := HM9.out.r.there 0 8 (by simp)
    have on : (#[.int .i64 1, .int .i64 0, .slice none 0 0, .int .i64 tk, .slice ta tl tc, .int .i64 tn, .int .i64 ts, .slice none 0 0] : Array Value).all (·.oneCell') = true := all_oneCell_toArray (cs := [.int .i64 1, .int .i64 0, .slice none 0 0, .int .i64 tk, .slice ta tl tc, .int .i64 tn, .int .i64 ts, .slice none 0 0]) (by simp [Value.oneCell'])
    have hrd : (w9.setCells w.heap.size 0 [.int .i64 1, .int .i64 0, .slice none 0 0, .int .i64 tk, .slice ta tl tc, .int .i64 tn, .int .i64 ts, .slice none 0 0]).rangeAt w.heap.size 0 [.int .i64 1, .int .i64 0, .slice none 0 0, .int .i64 tk, .slice ta tl tc, .int .i64 tn, .int .i64 ts, .slice none 0 0] := World.rangeAt_setCells_same _ _ _ _ st
    go_wp2_with (with_reducible refine wpv_at ?_; refine store_stopV 29 (.tmp 4) (.tmp 19) rfl ?_)
    change wpList _ _ _ _ _ _
    refine wpList_store_mid rfl 29 _ _ rfl w.heap.size 0 #[.int .i64 1, .int .i64 0, .slice none 0 0, .int .i64 tk, .slice ta tl tc, .int .i64 tn, .int .i64 ts, .slice none 0 0] rfl rfl st (by kernel_rfl) on ?_
    try simp only [Act.put]
    go_wp2
    try simp only [Exit.inBlock, Exit.then]
    refine bodyPost_ret (v := .agg #[.int .i64 1, .int .i64 0, .slice none 0 0, .int .i64 tk, .slice ta tl tc, .int .i64 tn, .int .i64 ts, .slice none 0 0]) ?hrat rfl ?hpat
    case hrat => exact results_cell rfl rfl (run_loadVar_mid (P := Try.prog) _ w.heap.size 0 29 [.int .i64 1, .int .i64 0, .slice none 0 0, .int .i64 tk, .slice ta tl tc, .int .i64 tn, .int .i64 ts, .slice none 0 0] _ hrd Try.underlying29 rfl (by kernel_rfl))
    exact de_end HC.out HM9.out (ET.mk ⟨1, 0, ⟨none, 0, 0, []⟩, ⟨⟨tk, ta, tl, tc, tn, ts⟩, bs⟩, none, 0, 0⟩ (fun _ => .nil)) HL.out ⟨Nat.succ_pos _, Nat.zero_le _, .inl rfl, fun i hi => absurd hi (Nat.not_lt_zero _)⟩ (OwnK.leaf _ _ _ _ _ _) _ _ rfl
  | false =>
    go_wp2_with fail
    refine (LN.out _ HM8.out.c).mono ?_
    rintro e w9 ⟨y, rfl, hy, hT, hP9, hC9⟩
    have HM9 := hid (HM8.out.past hP9 hC9)
    have HY := hid hy
    have HL : Hid ((ET.mk ⟨0, 0, y, ⟨⟨0, none, 0, 0, 0, 0⟩, []⟩, none, 0, 0⟩ (fun _ => .nil)).lies (w.heap.size + 1) w9) := ⟨hT.base HM8.out.r.1, bsf0 _ _, fits0, Nat.zero_le _, .inl rfl, fun i hi => absurd hi (Nat.not_lt_zero _)⟩
    clear hP9 hC9 HM8 hT hy
    have st : w9.there w.heap.size 0 8 := HM9.out.r.there 0 8 (by simp)
    have on : (#[.int .i64 0, .int .i64 0, .slice y.a y.len y.cap, .int .i64 0, .slice none 0 0, .int .i64 0, .int .i64 0, .slice none 0 0] : Array Value).all (·.oneCell') = true := all_oneCell_toArray (cs := [.int .i64 0, .int .i64 0, .slice y.a y.len y.cap, .int .i64 0, .slice none 0 0, .int .i64 0, .int .i64 0, .slice none 0 0]) (by simp [Value.oneCell'])
    have hrd : (w9.setCells w.heap.size 0 [.int .i64 0, .int .i64 0, .slice y.a y.len y.cap, .int .i64 0, .slice none 0 0, .int .i64 0, .int .i64 0, .slice none 0 0]).rangeAt w.heap.size 0 [.int .i64 0, .int .i64 0, .slice y.a y.len y.cap, .int .i64 0, .slice none 0 0, .int .i64 0, .int .i64 0, .slice none 0 0] := World.rangeAt_setCells_same _ _ _ _ st
    go_wp2_with (with_reducible refine wpv_at ?_; refine store_stopV 29 (.tmp 4) (.tmp 22) rfl ?_)
    change wpList _ _ _ _ _ _
    refine wpList_store_mid rfl 29 _ _ rfl w.heap.size 0 #[.int .i64 0, .int .i64 0, .slice y.a y.len y.cap, .int .i64 0, .slice none 0 0, .int .i64 0, .int .i64 0, .slice none 0 0] rfl rfl st (by kernel_rfl) on ?_
    try simp only [Act.put]
    go_wp2
    try simp only [Exit.inBlock, Exit.then]
    refine bodyPost_ret (v := .agg #[.int .i64 0, .int .i64 0, .slice y.a y.len y.cap, .int .i64 0, .slice none 0 0, .int .i64 0, .int .i64 0, .slice none 0 0]) ?hran rfl ?hpan
    case hran => exact results_cell rfl rfl (run_loadVar_mid (P := Try.prog) _ w.heap.size 0 29 [.int .i64 0, .int .i64 0, .slice y.a y.len y.cap, .int .i64 0, .slice none 0 0, .int .i64 0, .int .i64 0, .slice none 0 0] _ hrd Try.underlying29 rfl (by kernel_rfl))
    exact de_end HC.out HM9.out (ET.mk ⟨0, 0, y, ⟨⟨0, none, 0, 0, 0, 0⟩, []⟩, none, 0, 0⟩ (fun _ => .nil)) HL.out ⟨Nat.succ_pos _, Nat.zero_le _, .inr HY.out, fun i hi => absurd hi (Nat.not_lt_zero _)⟩ (OwnK.leaf _ _ _ _ _ _) _ _ rfl
end Go.Proofs.Ytidhcbjhggdncaa

/- TvR -/
namespace Go.Proofs.Ytidhcbjhggdncaa
open Go.RowKit Go.Deep
set_option maxRecDepth 100000

theorem cells8 (e : ET) : e.d.cells.length = 8 := rfl
theorem flat_at : ∀ (L : List ET) (i c : Nat) (u : Value), i < L.length → ((L[i]?.getD .nil).d.cells)[c]? = some u → ((L.map fun e => e.d.cells).flatten)[i * 8 + c]? = some u
  | [], i, _, _, h, _ => absurd h (Nat.not_lt_zero _)
  | e :: r, 0, c, u, _, hu => by
    have hc : c < 8 := by have h := (List.getElem?_eq_some_iff.1 hu).1; rwa [cells8] at h
    rw [List.map_cons, List.flatten_cons, Nat.zero_mul, Nat.zero_add, List.getElem?_append_left (by rw [cells8]; exact hc)]
    exact hu
  | e :: r, i + 1, c, u, h, hu => by
    have ih := flat_at r i c u (by simpa using h) (by simpa using hu)
    rw [List.map_cons, List.flatten_cons, List.getElem?_append_right (by rw [cells8]; omega), cells8, show (i + 1) * 8 + c - 8 = i * 8 + c by omega]
    exact ih
theorem flat_len : ∀ L : List ET, ((L.map fun e => e.d.cells).flatten).length = L.length * 8
  | [] => rfl
  | e :: r => by rw [List.map_cons, List.flatten_cons, List.length_append, cells8, flat_len r, List.length_cons]; omega
theorem mem2 {p : ET → Prop} {a b : ET} (ha : p a) (hb : p b) : ∀ x ∈ [a, b], p x := fun x hx => by
  rcases List.mem_cons.1 hx with rfl | hx
  · exact ha
  · rw [List.mem_singleton.1 hx]
    exact hb
theorem mem3 {p : ET → Prop} {a b c : ET} (ha : p a) (hb : p b) (hc : p c) : ∀ x ∈ [a, b, c], p x := fun x hx => by
  rcases List.mem_cons.1 hx with rfl | hx
  · exact ha
  · exact mem2 hb hc x hx
/-- A new expression over drawn kids. -/
theorem mkE {B n : Nat} {W : World} (k op : Int) (L : List ET) (hL : L.length ≤ 4) (h : ∀ x ∈ L, x.lies B W ∧ lvE x n) (hB : B ≤ W.heap.size) (vs : Array Value) (t : TypeId) (ht : t = 29) (hvs : vs.toList = (L.map fun e => e.d.cells).flatten) :
    (ET.mk ⟨k, op, ⟨none, 0, 0, []⟩, ⟨⟨0, none, 0, 0, 0, 0⟩, []⟩, some ⟨W.heap.size, 0, none⟩, L.length, L.length⟩ (fun i => L[i]?.getD .nil)).lies B (W.alloc (.cells vs t)) ∧ lvE (ET.mk ⟨k, op, ⟨none, 0, 0, []⟩, ⟨⟨0, none, 0, 0, 0, 0⟩, []⟩, some ⟨W.heap.size, 0, none⟩, L.length, L.length⟩ (fun i => L[i]?.getD .nil)) (n + 1) ∧ OwnK (W.alloc (.cells vs t)) B (ET.mk ⟨k, op, ⟨none, 0, 0, []⟩, ⟨⟨0, none, 0, 0, 0, 0⟩, []⟩, some ⟨W.heap.size, 0, none⟩, L.length, L.length⟩ (fun i => L[i]?.getD .nil)) := by
  have hm : ∀ i, i < L.length → L[i]?.getD .nil ∈ L := fun i hi => by
    rw [List.getElem?_eq_getElem hi]
    exact List.getElem_mem hi
  refine ⟨⟨bsf0 _ _, bsf0 _ _, fits0, by show L.length ≤ 1048576; omega, .inr ⟨W.heap.size, 0, rfl, hB, by simp, fun i hi c u hu => ?_⟩, fun i hi => ET.lies.below (h _ (hm i hi)).1 (bl_a _)⟩, ⟨Nat.succ_pos _, Nat.le_trans hL (by decide), .inl rfl, fun i hi => (h _ (hm i hi)).2⟩, ⟨L, rfl, rfl, ?_, rfl, hL⟩⟩
  · rw [Nat.zero_add]
    exact (Box.new W vs t (0, 0)).2 _ u (by rw [hvs]; exact flat_at L i c u hi hu)
  · have hl := flat_len L
    have hsz : vs.size = L.length * 8 := by rw [← Array.length_toList, hvs, hl]
    refine ⟨hl, .inr ⟨W.heap.size, L.length, vs, rfl, hB, ?_, Nat.le_refl _, by unfold maxLen; omega, hsz, ?_⟩⟩
    · rw [ht]
      show (W.heap.push _)[W.heap.size]? = _
      rw [Array.getElem?_push]
      simp
    · rw [hvs, List.take_of_length_le (by rw [hl]; exact Nat.le_refl _)]
end Go.Proofs.Ytidhcbjhggdncaa
