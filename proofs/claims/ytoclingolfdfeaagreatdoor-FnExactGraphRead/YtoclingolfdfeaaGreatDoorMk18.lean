/- Texts put together: LxC LxF -/
import Derived.Test.YtoclingolfdfeaaGreatDoorMk17
import Derived.Test.YtoclingolfdfeaaGreatDoorMk03
import Derived.Test.YtoclingolfdfeaaGreatDoorMk06
import Derived.Test.YtoclingolfdfeaaGreatDoorMk01
import Derived.Test.YtoclingolfdfeaaGreatDoorMk02
import Derived.Test.YtoclingolfdfeaaGreatDoorMk11
import Derived.Test.YtoclingolfdfeaaGreatDoorMk08
import Derived.Test.YtoclingolfdfeaaGreatDoorMk13
/- LxC -/
namespace Go.Proofs.YtoclingolfdfeaaGreatDoor
open Go.RowKit Go.Deep
set_option maxRecDepth 100000

theorem wpAnyH_imps {P : Program} {md : Region.Mode} {ops : Array Oper} {Q : Exit → Act → World → Prop} {S S' : World → Prop} (h : ∀ w, S' w → S w) : ∀ (fuel : Nat) (listed : Array Bool) (a : Act) (w : World), wpAnyH P md ops Q S' fuel listed a w → wpAnyH P md ops Q S fuel listed a w
  | 0, _, _, _, hh => hh
  | fuel + 1, _, _, _, hh => ⟨hh.1, fun i hi => wpOp_mono (fun a' w' h' => ⟨h w' h'.1, wpAnyH_imps h fuel _ a' w' h'.2⟩) (hh.2 i hi)⟩
theorem l1number_any (n s : Int) (a : Option Addr) (len cap : Nat) (w : World) (h : numOk n s = true) :
    Calls Tryz.prog 121 #[.agg #[.int .i64 3, .slice a len cap, .int .i64 n, .int .i64 s]] w fun e w' => DigRes w (showL 3 n s []) e w' := by
  have hb := numOk_bounds h
  obtain ⟨t, rfl⟩ : ∃ t : Nat, s = t := ⟨s.toNat, by omega⟩
  by_cases hn : n < 0
  · obtain ⟨m, rfl⟩ : ∃ m, n = -m := ⟨-n, by omega⟩
    have := l1number_neg m t a len cap w (by omega) (by omega) (by omega)
    have e : showL 3 (-m) t [] = 45 :: numL m t := by simp [showL]; omega
    rw [e]
    exact this
  · have := l1number_pos n t a len cap w (by omega) (by omega) (by omega)
    have e : showL 3 n t [] = numL n t := by simp [showL, hn]
    rw [e]
    exact this
/-- What l2number answers. -/
def NumbRes (raw : List Int) (w : World) (e : Ending) (w' : World) : Prop :=
  ((∃ n s : Int, numOf raw = some (n, s) ∧ e = .returned (.tuple #[.agg #[.int .i64 3, .slice none 0 0, .int .i64 n, .int .i64 s], .bool true])) ∨ (numOf raw = none ∧ e = .returned (.tuple #[.agg #[.int .i64 0, .slice none 0 0, .int .i64 0, .int .i64 0], .bool false]))) ∧ Below w.heap.size w w'
theorem numF_dot {r : List Int} {n s : Nat} : numF (46 :: r) n s false = numF r n s true := by rw [numF, if_pos ⟨rfl, rfl⟩]
theorem numF_bad {x : Int} {r : List Int} {n s : Nat} {p : Bool} (h : x = 46 → p = true) (hb : x < 48 ∨ 57 < x ∨ 1000000000000000 < n) : numF (x :: r) n s p = none := by
  rw [numF, if_neg, if_pos hb]
  rintro ⟨h1, h2⟩
  rw [h h1] at h2
  cases h2
theorem numF_more {x : Int} {r : List Int} {n s : Nat} {p : Bool} (h1 : 48 ≤ x) (h2 : x ≤ 57) (h3 : n ≤ 1000000000000000) : numF (x :: r) n s p = numF r (n * 10 + (x - 48).toNat) (if p = true then s + 1 else s) p := by
  rw [numF, if_neg (by omega), if_neg (by omega)]
theorem toNat_add {n : Nat} {x : Int} (h : 48 ≤ x) : ((n * 10 + (x - 48).toNat : Nat) : Int) = (n : Int) * 10 + (x - 48) := by omega
theorem byt_raw {w : World} {a : Option Addr} {len : Nat} {raw : List Int} (h : Bs w a len raw) : Byt raw := Byt.of h.2.2.1
theorem cell_ltC {w : World} {b o : Nat} {v : Value} (h : w.cell? ⟨b, o, none⟩ = some v) : b < w.heap.size := by
  unfold World.cell? at h
  rcases Nat.lt_or_ge b w.heap.size with h1 | h1
  · exact h1
  · simp [Array.getElem?_eq_none h1] at h
theorem numOf_empty : numOf [] = none := by
  cases h : numOf [] with
  | none => rfl
  | some q =>
    obtain ⟨h1, h2⟩ := (numOf_some (n := q.1) (s := q.2)).1 h
    have := (showL_len (k := 3) (bs := []) (n := q.1) (s := q.2) (by simpa [termOk] using h1)).1
    rw [h2] at this
    simp at this
set_option maxHeartbeats 8000000 in
theorem l2number_nil (a : Option Addr) (cap : Nat) (w : World) : Calls Tryz.prog 123 #[.slice a 0 cap] w (NumbRes [] w) := by
  have HNO : Hid (numOf [] = none) := numOf_empty
  obtain ⟨ss, hss⟩ : ∃ ss : Int, ss = 0 := ⟨_, rfl⟩
  obtain ⟨m, hm⟩ : ∃ m : Int, m = 0 := ⟨_, rfl⟩
  go_enter Tryz.func123, Tryz.ntmps123
  go_wp2
  refine wp_loop_rounds 1 ?_
  rw [rounds_succ]
  go_wp2_with fail
  obtain ⟨wt, hwt⟩ : ∃ wt, wt = ((w.alloc (.cells #[.int .i64 0, .slice none 0 0, .int .i64 0, .int .i64 0] 24)).alloc (.cells #[.int .i64 3, .slice none 0 0, .int .i64 0, .int .i64 0] 24)) := ⟨_, rfl⟩
  have HRB : Hid (Own4 wt w.heap.size (.int .i64 0) (.slice none 0 0) (.int .i64 0) (.int .i64 0)) := by
    rw [hwt]
    exact (Own4.at w w.heap.size _ _ _ _ 24 rfl).below (bl_a _)
  have HBW : Hid (Below w.heap.size w wt) := by
    rw [hwt]
    exact bl_alloc (bl_a _) _
  have hsw : w.heap.size ≤ wt.heap.size := HBW.out.size
  rw [← hwt]
  clear hwt
  refine wp_region_held_drew (S := fun w' => Below wt.heap.size wt w') (by kernel_rfl) ?_ (fun hHeld => ?_)
  · exact Below.drew (Below.refl _ _)
  refine take_at (i := 0) 71 (v := ?v97) rfl rfl (by kernel_rfl) (by kernel_rfl) (by kernel_rfl) (fun _ _ _ h => h) (Or.inl ⟨by rfl, ?y97⟩) hHeld ?r97
  case y97 => (intro w' hSw; skip; go_simp; (try with_reducible rfl))
  try simp only [Act.put, List.setIfInBounds_toArray, List.set_cons_zero, List.set_cons_succ]
  refine take_at (i := 1) 72 (v := ?v98) rfl rfl (by kernel_rfl) (by kernel_rfl) (by kernel_rfl) (fun _ _ _ h => h) (Or.inl ⟨by rfl, ?y98⟩) hHeld ?r98
  case y98 => (intro w' hSw; skip; go_simp; (try with_reducible rfl))
  try simp only [Act.put, List.setIfInBounds_toArray, List.set_cons_zero, List.set_cons_succ]
  refine take_at (i := 2) 73 (v := ?v99) rfl rfl (by kernel_rfl) (by kernel_rfl) (by kernel_rfl) (fun _ _ _ h => h) (Or.inl ⟨by rfl, ?y99⟩) hHeld ?r99
  case y99 => (intro w' hSw; skip; go_simp; (try with_reducible rfl))
  try simp only [Act.put, List.setIfInBounds_toArray, List.set_cons_zero, List.set_cons_succ]
  refine take_at (i := 3) 74 (v := (.bool true)) rfl rfl (by kernel_rfl) (by kernel_rfl) (by kernel_rfl) (fun _ _ _ h => h) (Or.inl ⟨by rfl, ?y100⟩) hHeld ?r100
  case y100 => (intro w' hSw; skip; go_simp; (try with_reducible rfl))
  try simp only [Act.put, List.setIfInBounds_toArray, List.set_cons_zero, List.set_cons_succ]
  refine take_at (i := 4) 75 (v := ?v101) rfl rfl (by kernel_rfl) (by kernel_rfl) (by kernel_rfl) (fun _ _ _ h => h) (Or.inl ⟨by rfl, ?y101⟩) hHeld ?r101
  case y101 => (intro w' hSw; skip; go_simp; (try with_reducible rfl))
  try simp only [Act.put, List.setIfInBounds_toArray, List.set_cons_zero, List.set_cons_succ]
  refine take_at (i := 5) 76 (v := undef) rfl rfl (by kernel_rfl) (by kernel_rfl) (by kernel_rfl) (fun _ _ _ h => h) (Or.inr ⟨by rfl, rfl⟩) hHeld ?_
  try simp only [Act.put, List.setIfInBounds_toArray, List.set_cons_zero, List.set_cons_succ]
  refine take_at (i := 6) 77 (v := undef) rfl rfl (by kernel_rfl) (by kernel_rfl) (by kernel_rfl) (fun _ _ _ h => h) (Or.inr ⟨by rfl, rfl⟩) hHeld ?_
  try simp only [Act.put, List.setIfInBounds_toArray, List.set_cons_zero, List.set_cons_succ]
  refine take_at (i := 7) 78 (v := undef) rfl rfl (by kernel_rfl) (by kernel_rfl) (by kernel_rfl) (fun _ _ _ h => h) (Or.inr ⟨by rfl, rfl⟩) hHeld ?_
  try simp only [Act.put, List.setIfInBounds_toArray, List.set_cons_zero, List.set_cons_succ]
  refine take_at (i := 8) 79 (v := ?v102) rfl rfl (by kernel_rfl) (by kernel_rfl) (by kernel_rfl) (fun _ _ _ h => h) (Or.inl ⟨by rfl, ?y102⟩) hHeld ?r102
  case y102 => (intro w' hSw; skip; go_simp; (try with_reducible rfl))
  try simp only [Act.put, List.setIfInBounds_toArray, List.set_cons_zero, List.set_cons_succ]
  refine take_at (i := 9) 80 (v := ?v103) rfl rfl (by kernel_rfl) (by kernel_rfl) (by kernel_rfl) (fun _ _ _ h => h) (Or.inl ⟨by rfl, ?y103⟩) hHeld ?r103
  case y103 => (intro w' hSw; skip; go_simp; (try with_reducible rfl))
  try simp only [Act.put, List.setIfInBounds_toArray, List.set_cons_zero, List.set_cons_succ]
  refine take_at (i := 10) 81 (v := undef) rfl rfl (by kernel_rfl) (by kernel_rfl) (by kernel_rfl) (fun _ _ _ h => h) (Or.inr ⟨by rfl, rfl⟩) hHeld ?_
  try simp only [Act.put, List.setIfInBounds_toArray, List.set_cons_zero, List.set_cons_succ]
  refine take_at (i := 11) 82 (v := undef) rfl rfl (by kernel_rfl) (by kernel_rfl) (by kernel_rfl) (fun _ _ _ h => h) (Or.inr ⟨by rfl, rfl⟩) hHeld ?_
  try simp only [Act.put, List.setIfInBounds_toArray, List.set_cons_zero, List.set_cons_succ]
  refine take_at (i := 12) 83 (v := undef) rfl rfl (by kernel_rfl) (by kernel_rfl) (by kernel_rfl) (fun _ _ _ h => h) (Or.inr ⟨by rfl, rfl⟩) hHeld ?_
  try simp only [Act.put, List.setIfInBounds_toArray, List.set_cons_zero, List.set_cons_succ]
  refine take_at (i := 13) 84 (v := undef) rfl rfl (by kernel_rfl) (by kernel_rfl) (by kernel_rfl) (fun _ _ _ h => h) (Or.inr ⟨by rfl, rfl⟩) hHeld ?_
  try simp only [Act.put, List.setIfInBounds_toArray, List.set_cons_zero, List.set_cons_succ]
  refine take_at (i := 14) 85 (v := undef) rfl rfl (by kernel_rfl) (by kernel_rfl) (by kernel_rfl) (fun _ _ _ h => h) (Or.inr ⟨by rfl, rfl⟩) hHeld ?_
  try simp only [Act.put, List.setIfInBounds_toArray, List.set_cons_zero, List.set_cons_succ]
  refine take_at (i := 15) 86 (v := undef) rfl rfl (by kernel_rfl) (by kernel_rfl) (by kernel_rfl) (fun _ _ _ h => h) (Or.inr ⟨by rfl, rfl⟩) hHeld ?_
  try simp only [Act.put, List.setIfInBounds_toArray, List.set_cons_zero, List.set_cons_succ]
  refine take_at (i := 16) 87 (v := ?v104) rfl rfl (by kernel_rfl) (by kernel_rfl) (by kernel_rfl) (fun _ _ _ h => h) (Or.inl ⟨by rfl, ?y104⟩) hHeld ?r104
  case y104 => (intro w' hSw; skip; go_simp; (try with_reducible rfl))
  try simp only [Act.put, List.setIfInBounds_toArray, List.set_cons_zero, List.set_cons_succ]
  refine wpAnyH_done (by kernel_rfl) ?_ _
  clear hHeld
  have HRZ := HRB.out.below (Below.drew (Below.refl wt.heap.size wt))
  obtain ⟨⟨o0, o1, o2, o3, o4⟩, f0, f1, f2, f3⟩ := id HRZ
  have HBZ : Hid (Below w.heap.size w wt.drew) := HBW.out.trans ((Below.drew (Below.refl wt.heap.size wt)).mono (by omega))
  clear HRZ HRB HBW
  generalize wt.drew = wd at *
  go_wp2_with fail
  refine bodyPost_ret (v := .tuple #[.agg #[.int .i64 0, .slice none 0 0, .int .i64 0, .int .i64 0], .bool false]) (by simp [results, Tryz.results123, go_sem, *]) rfl ⟨.inr ⟨HNO.out, rfl⟩, ?_⟩
  exact bl_set (bl_set (bl_set (bl_set HBZ.out (Nat.le_refl _) _) (Nat.le_refl _) _) (Nat.le_refl _) _) (Nat.le_refl _) _
end Go.Proofs.YtoclingolfdfeaaGreatDoor

/- LxF -/
namespace Go.Proofs.YtoclingolfdfeaaGreatDoor
open Go.RowKit Go.Deep
set_option maxRecDepth 100000

/-- A box of the call's own with these cells. -/
structure Bx (w : World) (b : Nat) (cs : List Value) : Prop where
  lt : b < w.heap.size
  c : ∀ j x, cs[j]? = some x → w.cell? ⟨b, j, none⟩ = some x
  f : ∀ j, j < cs.length → w.frozen? ⟨b, j, none⟩ = false
theorem Bx.new (w : World) (b : Nat) (cs : List Value) (t : TypeId) (e : b = w.heap.size) : Bx (w.alloc (.cells cs.toArray t)) b cs := by
  subst e
  refine ⟨by simp, fun j x hx => ?_, fun j _ => by simp [go_sem]⟩
  have : (w.alloc (.cells cs.toArray t)).cell? ⟨w.heap.size, j, none⟩ = cs[j]? := by simp [go_sem]
  exact this.trans hx
theorem Bx.below {w w' : World} {b : Nat} {cs : List Value} (h : Bx w b cs) (hb : Below w.heap.size w w') : Bx w' b cs :=
  ⟨Nat.lt_of_lt_of_le h.lt hb.size, fun j x hx => (hb.cell (p := ⟨b, j, none⟩) h.lt).trans (h.c j x hx), fun j hj => (hb.frozen (p := ⟨b, j, none⟩) h.lt).trans (h.f j hj)⟩
theorem Bx.belowB {w w' : World} {b B : Nat} {cs : List Value} (h : Bx w b cs) (hb : Below B w w') (hB : b < B) : Bx w' b cs :=
  ⟨Nat.lt_of_lt_of_le h.lt hb.size, fun j x hx => (hb.cell (p := ⟨b, j, none⟩) hB).trans (h.c j x hx), fun j hj => (hb.frozen (p := ⟨b, j, none⟩) hB).trans (h.f j hj)⟩
theorem Bx.set {w : World} {b : Nat} {cs : List Value} (h : Bx w b cs) (j : Nat) (v : Value) (hj : j < cs.length) : Bx (w.setCell ⟨b, j, none⟩ v) b (cs.set j v) := by
  refine ⟨by simpa using h.lt, fun i x hx => ?_, fun i hi => ?_⟩
  · rw [List.getElem?_set] at hx
    by_cases e : j = i
    · subst e
      rw [if_pos rfl, if_pos hj] at hx
      cases hx
      exact set_same (h.c j cs[j] (List.getElem?_eq_getElem hj))
    · rw [if_neg e] at hx
      rw [World.cell?_setCell_other _ _ _ _ (by intro h; simp only [Addr.mk.injEq] at h; omega)]
      exact h.c i x hx
  · rw [World.frozen?_setCell]
    exact h.f i (by simpa using hi)
theorem Bx.other {w : World} {b c : Nat} {cs : List Value} (h : Bx w b cs) (j : Nat) (v : Value) (hne : b ≠ c) : Bx (w.setCell ⟨c, j, none⟩ v) b cs := by
  refine ⟨by simpa using h.lt, fun i x hx => ?_, fun i hi => ?_⟩
  · rw [World.cell?_setCell_other _ _ _ _ (by intro h; simp only [Addr.mk.injEq] at h; omega)]
    exact h.c i x hx
  · rw [World.frozen?_setCell]
    exact h.f i hi
/-- A text that begins its block. -/
def Bs0 (w : World) (a : Option Addr) (len : Nat) (bs : List Int) : Prop := Bs w a len bs ∧ (len = 0 ∨ ∃ g, a = some ⟨g, 0, none⟩)
theorem Tz.bs0 {w : World} {B : Nat} {a : Option Addr} {len cap : Nat} {bs : List Int} (h : Tz w B a len cap bs) : Bs0 w a len bs := by
  refine ⟨h.1, ?_⟩
  rcases h.2 with ⟨_, h0, _⟩ | ⟨g, e, _⟩
  · exact .inl h0
  · exact .inr ⟨g, e⟩
theorem Bs0.below {w w' : World} {a : Option Addr} {len : Nat} {bs : List Int} (h : Bs0 w a len bs) (hb : Below w.heap.size w w') : Bs0 w' a len bs := ⟨h.1.below hb, h.2⟩
theorem Bs0.nil (w : World) (a : Option Addr) : Bs0 w a 0 [] := ⟨⟨rfl, by omega, by simp, .inl rfl⟩, .inl rfl⟩
theorem Bs0.one (w : World) (x : Int) (hx : 0 ≤ x ∧ x ≤ 255) : Bs0 (w.alloc (.cells #[.int .u8 x] 5)) (some ⟨w.heap.size, 0, none⟩) 1 [x] :=
  ⟨⟨rfl, by omega, fun i => by cases i <;> simp <;> omega, .inr ⟨_, 0, rfl, by simp, fun i hi => by
    obtain rfl : i = 0 := by omega
    simp [go_sem]⟩⟩, .inr ⟨_, rfl⟩⟩
/-- Writing into a box whose first cell is no byte leaves such texts alone. -/
theorem Bs0.set {w : World} {a : Option Addr} {len : Nat} {bs : List Int} (h : Bs0 w a len bs) {c : Nat} {x : Value} (hx : w.cell? ⟨c, 0, none⟩ = some x) (hne : ∀ n, x ≠ .int .u8 n) (j : Nat) (v : Value) : Bs0 (w.setCell ⟨c, j, none⟩ v) a len bs := by
  refine ⟨?_, h.2⟩
  obtain ⟨h1, h2, h3, h4⟩ := h.1
  refine ⟨h1, h2, h3, ?_⟩
  rcases h4 with h4 | ⟨b, off, e, hl, hc⟩
  · exact .inl h4
  · by_cases h0 : len = 0
    · exact .inl h0
    · obtain ⟨g, e2⟩ := h.2.resolve_left h0
      rw [e2] at e
      simp only [Option.some.injEq, Addr.mk.injEq] at e
      obtain ⟨e3, e4, _⟩ := e
      subst e3 e4
      have hgc : g ≠ c := fun e => by
        subst e
        have := hc 0 (by omega)
        rw [Nat.add_zero] at this
        rw [hx] at this
        cases this
        exact hne _ rfl
      refine .inr ⟨g, 0, e2, by simpa using hl, fun i hi => ?_⟩
      rw [World.cell?_setCell_other _ _ _ _ (by intro h; simp only [Addr.mk.injEq] at h; omega)]
      exact hc i hi
/-- A token of the model's, with its texts. -/
structure MT where
  kind : Int
  p : Nat
  t : Tm
  tb : List Int
  xa : Option Addr
  xl : Nat
  xc : Nat
  xb : List Int
def eM (m : MT) : List Value := [.int .i64 m.kind, .int .i64 m.p, .int .i64 m.t.k, .slice m.t.a m.t.len m.t.cap, .int .i64 m.t.n, .int .i64 m.t.s, .slice m.xa m.xl m.xc]
/-- It lies in memory. -/
structure MT.lies (m : MT) (w : World) : Prop where
  t : Bs0 w m.t.a m.t.len m.tb
  x : Bs0 w m.xa m.xl m.xb
  fit : m.t.fits
theorem MT.lies.below {m : MT} {w w' : World} (h : m.lies w) (hb : Below w.heap.size w w') : m.lies w' := ⟨h.t.below hb, h.x.below hb, h.fit⟩
theorem MT.lies.set {m : MT} {w : World} (h : m.lies w) {c : Nat} {x : Value} (hx : w.cell? ⟨c, 0, none⟩ = some x) (hne : ∀ n, x ≠ .int .u8 n) (j : Nat) (v : Value) : m.lies (w.setCell ⟨c, j, none⟩ v) := ⟨h.t.set hx hne j v, h.x.set hx hne j v, h.fit⟩
/-- The model's numbers of kinds. -/
def kindM (k : Nat) : Int := if k = 0 then 1 else if k = 1 then 4 else if k = 2 then 3 else 5
/-- What a token bears beside its term. -/
def txtM (t : PT) : List Int := if t.kind = 0 then [] else if t.kind = 1 then t.raw.drop 1 else t.raw
/-- It is the token t, at its place. -/
structure MT.is (m : MT) (p : Nat) (t : PT) : Prop where
  kind : m.kind = kindM t.kind
  p : m.p = p
  td : t.kind = 0 → (⟨m.t.k, m.tb, m.t.n, m.t.s⟩ : TD) = t.td
  x : m.xb = txtM t
/-- What l2one answers at place i, where a token begins. -/
def TokAns (bs : List Int) (i : Nat) (w : World) (e : Ending) (w' : World) : Prop :=
  (∃ (m : MT) (end_ : Int), e = .returned (.tuple #[.agg (eM m).toArray, .int .i64 end_]) ∧ m.lies w' ∧ ((∃ t, tokOf (bs.drop i) = some t ∧ m.is i t ∧ end_ = ((i + t.raw.length : Nat) : Int)) ∨ (tokOf (bs.drop i) = none ∧ end_ = -1))) ∧ Below w.heap.size w w'
/-- A cell of a box that is no byte keeps texts apart from it. -/
theorem not_u8 (k : Int) : ∀ n, Value.int .i64 k ≠ .int .u8 n := fun n h => by cases h
end Go.Proofs.YtoclingolfdfeaaGreatDoor
