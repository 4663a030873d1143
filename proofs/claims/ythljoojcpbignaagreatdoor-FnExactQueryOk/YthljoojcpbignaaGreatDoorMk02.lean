import Derived.Test.YthljoojcpbignaaGreatDoorMk01
import Derived.Deep.RegionHeld3
import Derived.Deep.AppendLies
namespace Go.Proofs.YthljoojcpbignaaGreatDoor
/- MrkA -/
open Go.RowKit Go.Deep
set_option maxHeartbeats 40000000
structure But (g : Nat) (w w' : World) : Prop where
 os : w'.os = w.os
 tape : w'.tape = w.tape
 output : w'.output = w.output
 size : w'.heap.size = w.heap.size
 block : ∀ b, b ≠ g → w'.heap[b]? = w.heap[b]?
theorem But.refl (g : Nat) (w : World) : But g w w := ⟨rfl, rfl, rfl, rfl, fun _ _ => rfl⟩
theorem But.set {g : Nat} {w w' : World} (h : But g w w') (i : Nat) (v : Value) : But g w (w'.setCell ⟨g, i, none⟩ v) :=
 ⟨h.os, h.tape, h.output, by simpa using h.size, fun b hb => (Below.heap_setCell _ _ _ _ hb).trans (h.block b hb)⟩
theorem But.cell {g : Nat} {w w' : World} (h : But g w w') {p : Addr} (hp : p.block ≠ g) : w'.cell? p = w.cell? p := World.cell?_of_block (w := w) (h.block p.block hp)
theorem But.frozen {g : Nat} {w w' : World} (h : But g w w') {p : Addr} (hp : p.block ≠ g) : w'.frozen? p = w.frozen? p := World.frozen?_of_block (w := w) (h.block p.block hp)
theorem But.below {g B : Nat} {w w' : World} (h : But g w w') (hg : B ≤ g) : Below B w w' :=
 ⟨h.os, h.tape, h.output, by rw [h.size]; exact Nat.le_refl _, fun b hb => h.block b (by omega)⟩
theorem set_same {w : World} {g i : Nat} {u v : Value} (h : w.cell? ⟨g, i, none⟩ = some u) : (w.setCell ⟨g, i, none⟩ v).cell? ⟨g, i, none⟩ = some v := by
 simp [go_sem, h]
theorem set_other {w : World} {g i j : Nat} {v : Value} (h : i ≠ j) : (w.setCell ⟨g, j, none⟩ v).cell? ⟨g, i, none⟩ = w.cell? ⟨g, i, none⟩ := by
 simp [go_sem]
theorem toTerm_own (k n s : Int) (a : Option Addr) (len cap : Nat) (bs : List Int) (w : World) (hB : Bs w a len bs) :
   Calls Tryz.prog 124 #[.agg #[.int .i64 k, .slice a len cap, .int .i64 n, .int .i64 s]] w fun e w' =>
     e = .returned (.agg #[.int .i64 k, .slice (some ⟨w.heap.size + 1 + 1 + 1, 0, none⟩) len len, .int .i64 n, .int .i64 s]) ∧ ∃ o1 o2 o3, w' = (((w.alloc o1).alloc o2).alloc o3).alloc (.cells (cellsOf bs) 5) := by
 have hB3 : ∀ o1 o2 o3, Bs (((w.alloc o1).alloc o2).alloc o3) a len bs := fun o1 o2 o3 => hB.below (bl_alloc (bl_alloc (bl_alloc (Below.refl _ _) _) _) _)
 clear hB
 go_in
 go_wp2_with (go_at_call 55; refine (toByteS_any a len cap bs _ (hB3 _ _ _)).mono ?_; rintro e w1 ⟨rfl, rfl⟩)
 simp [bodyPost, results, Tryz.results124, go_sem]
 exact ⟨_, _, _, rfl⟩
/- OwnA -/
def OwnT (w : World) (g len : Nat) (bs : List Int) : Prop :=
 Bs w (some ⟨g, 0, none⟩) len bs ∧ g < w.heap.size ∧ (∀ i, i < len → ∃ v, w.cell? ⟨g, i, none⟩ = some (.int .u8 v)) ∧ (∀ i, i < len → w.frozen? ⟨g, i, none⟩ = false)
theorem OwnT.below {w w' : World} {g len : Nat} {bs : List Int} (h : OwnT w g len bs) (hb : Bl w w') : OwnT w' g len bs := by
 obtain ⟨h1, h2, h3, h4⟩ := h
 refine ⟨h1.below hb, Nat.lt_of_lt_of_le h2 hb.size, fun i hi => ?_, fun i hi => (hb.frozen (p := ⟨g, i, none⟩) h2).trans (h4 i hi)⟩
 obtain ⟨v, hv⟩ := h3 i hi
 exact ⟨v, (hb.cell (p := ⟨g, i, none⟩) h2).trans hv⟩
theorem Bs.but {w w' : World} {g b len : Nat} {bs : List Int} (h : Bs w (some ⟨b, 0, none⟩) len bs) (hb : But g w w') (hne : b ≠ g) : Bs w' (some ⟨b, 0, none⟩) len bs := by
 obtain ⟨h1, h2, h3, h4⟩ := h
 refine ⟨h1, h2, h3, ?_⟩
 rcases h4 with h4 | ⟨b', off, ha, hlt, hc⟩
 · exact .inl h4
 cases ha
 exact .inr ⟨b, 0, rfl, by rw [hb.size]; exact hlt, fun i hi => (hb.cell (p := ⟨b, 0 + i, none⟩) hne).trans (hc i hi)⟩
theorem OwnT.but {w w' : World} {g b len : Nat} {bs : List Int} (h : OwnT w b len bs) (hb : But g w w') (hne : b ≠ g) : OwnT w' b len bs := by
 obtain ⟨h1, h2, h3, h4⟩ := h
 refine ⟨h1.but hb hne, by rw [hb.size]; exact h2, fun i hi => ?_, fun i hi => (hb.frozen (p := ⟨b, i, none⟩) hne).trans (h4 i hi)⟩
 obtain ⟨v, hv⟩ := h3 i hi
 exact ⟨v, (hb.cell (p := ⟨b, i, none⟩) hne).trans hv⟩
theorem At4.but {w w' : World} {g b : Nat} {v0 v1 v2 v3 : Value} (h : At4 w b v0 v1 v2 v3) (hb : But g w w') (hne : b ≠ g) : At4 w' b v0 v1 v2 v3 := by
 obtain ⟨hl, h0, h1, h2, h3⟩ := h
 exact ⟨by rw [hb.size]; exact hl, (hb.cell (p := ⟨b, 0, none⟩) hne).trans h0, (hb.cell (p := ⟨b, 1, none⟩) hne).trans h1, (hb.cell (p := ⟨b, 2, none⟩) hne).trans h2, (hb.cell (p := ⟨b, 3, none⟩) hne).trans h3⟩
theorem toTerm_out (k n s : Int) (a : Option Addr) (len cap : Nat) (bs : List Int) (w : World) (hB : Bs w a len bs) :
   Calls Tryz.prog 124 #[.agg #[.int .i64 k, .slice a len cap, .int .i64 n, .int .i64 s]] w fun e w' =>
     e = .returned (.agg #[.int .i64 k, .slice (some ⟨w.heap.size + 1 + 1 + 1, 0, none⟩) len len, .int .i64 n, .int .i64 s]) ∧ ∃ o1 o2 o3, OwnT w' (w.heap.size + 1 + 1 + 1) len bs ∧ w' = (((w.alloc o1).alloc o2).alloc o3).alloc (.cells (cellsOf bs) 5) := by
 refine (toTerm_own k n s a len cap bs w hB).mono ?_
 obtain ⟨hl, h2, h3, _⟩ := hB
 rintro e w' ⟨rfl, o1, o2, o3, rfl⟩
 refine ⟨rfl, o1, o2, o3, ⟨?_, by simp, fun i hi => ?_, fun i hi => ?_⟩, rfl⟩
 · have := Bs.made (((w.alloc o1).alloc o2).alloc o3) bs len hl h2 h3
   simpa using this
 · have hi' : i < bs.length := by omega
   exact ⟨bs[i], by simp [go_sem, cellsOf, hi']⟩
 have hi' : i < bs.length := by omega
 simp [go_sem, cellsOf]
theorem toTerm_new (k n s : Int) (a : Option Addr) (len cap : Nat) (bs : List Int) (w : World) (hB : Bs w a len bs) :
   Calls Tryz.prog 124 #[.agg #[.int .i64 k, .slice a len cap, .int .i64 n, .int .i64 s]] w fun e w' =>
     ∃ g, e = .returned (.agg #[.int .i64 k, .slice (some ⟨g, 0, none⟩) len len, .int .i64 n, .int .i64 s]) ∧ OwnT w' g len bs ∧ w.heap.size ≤ g ∧ Bl w w' := by
 refine (toTerm_out k n s a len cap bs w hB).mono ?_
 rintro e w' ⟨rfl, o1, o2, o3, hO, rfl⟩
 exact ⟨_, rfl, hO, by omega, bl_alloc (bl_alloc (bl_alloc (bl_a _) _) _) _⟩
/- TriA -/
structure Tm where
 k : Int
 a : Option Addr
 len : Nat
 cap : Nat
 n : Int
 s : Int
def Tm.own (t : Tm) (g : Nat) : Tm := ⟨t.k, some ⟨g, 0, none⟩, t.len, t.len, t.n, t.s⟩
def Tm.fits (t : Tm) : Prop := -9223372036854775808 ≤ t.n ∧ t.n ≤ 9223372036854775807 ∧ -9223372036854775808 ≤ t.s ∧ t.s ≤ 9223372036854775807
def At12 (w : World) (b : Nat) (t u v : Tm) : Prop :=
 b < w.heap.size ∧
   (w.cell? ⟨b, 0, none⟩ = some (.int .i64 t.k) ∧ w.cell? ⟨b, 1, none⟩ = some (.slice t.a t.len t.cap) ∧ w.cell? ⟨b, 2, none⟩ = some (.int .i64 t.n) ∧ w.cell? ⟨b, 3, none⟩ = some (.int .i64 t.s)) ∧
   (w.cell? ⟨b, 4, none⟩ = some (.int .i64 u.k) ∧ w.cell? ⟨b, 5, none⟩ = some (.slice u.a u.len u.cap) ∧ w.cell? ⟨b, 6, none⟩ = some (.int .i64 u.n) ∧ w.cell? ⟨b, 7, none⟩ = some (.int .i64 u.s)) ∧
   (w.cell? ⟨b, 8, none⟩ = some (.int .i64 v.k) ∧ w.cell? ⟨b, 9, none⟩ = some (.slice v.a v.len v.cap) ∧ w.cell? ⟨b, 10, none⟩ = some (.int .i64 v.n) ∧ w.cell? ⟨b, 11, none⟩ = some (.int .i64 v.s))
theorem At12.below {w w' : World} {b : Nat} {t u v : Tm} (h : At12 w b t u v) (hb : Bl w w') : At12 w' b t u v := by
 obtain ⟨hl, h⟩ := h
 have e := fun i => hb.cell (p := ⟨b, i, none⟩) hl
 refine ⟨Nat.lt_of_lt_of_le hl hb.size, ?_⟩
 simp only [e]
 exact h
def Own12 (w : World) (b : Nat) (t u v : Tm) : Prop := At12 w b t u v ∧ ∀ i, i < 12 → w.frozen? ⟨b, i, none⟩ = false
theorem Own12.below {w w' : World} {b : Nat} {t u v : Tm} (h : Own12 w b t u v) (hb : Bl w w') : Own12 w' b t u v :=
 ⟨h.1.below hb, fun i hi => (hb.frozen (p := ⟨b, i, none⟩) h.1.1).trans (h.2 i hi)⟩
def cells12 (t u v : Tm) : Array Value := #[.int .i64 t.k, .slice t.a t.len t.cap, .int .i64 t.n, .int .i64 t.s, .int .i64 u.k, .slice u.a u.len u.cap, .int .i64 u.n, .int .i64 u.s, .int .i64 v.k, .slice v.a v.len v.cap, .int .i64 v.n, .int .i64 v.s]
theorem Own12.at (w : World) (b : Nat) (t u v : Tm) (T : TypeId) (e : b = w.heap.size) : Own12 (w.alloc (.cells (cells12 t u v) T)) b t u v := by
 subst e
 refine ⟨⟨by simp, ⟨?_, ?_, ?_, ?_⟩, ⟨?_, ?_, ?_, ?_⟩, ⟨?_, ?_, ?_, ?_⟩⟩, fun i hi => ?_⟩
 all_goals simp [go_sem, cells12]
def put4 (w : World) (b i0 i1 i2 i3 : Nat) (t : Tm) : World := (((w.setCell ⟨b, i0, none⟩ (.int .i64 t.k)).setCell ⟨b, i1, none⟩ (.slice t.a t.len t.cap)).setCell ⟨b, i2, none⟩ (.int .i64 t.n)).setCell ⟨b, i3, none⟩ (.int .i64 t.s)
theorem put4_size {w : World} {b i0 i1 i2 i3 : Nat} {x : Tm} : (put4 w b i0 i1 i2 i3 x).heap.size = w.heap.size := by simp [put4]
theorem Bs.put {w : World} {g len : Nat} {bs : List Int} {c i0 i1 i2 i3 : Nat} {x : Tm} (h : Bs w (some ⟨g, 0, none⟩) len bs) (hne : g ≠ c) : Bs (put4 w c i0 i1 i2 i3 x) (some ⟨g, 0, none⟩) len bs := by
 obtain ⟨h1, h2, h3, h4⟩ := h
 refine ⟨h1, h2, h3, ?_⟩
 rcases h4 with h4 | ⟨b', off, ha, hlt, hc⟩
 · exact .inl h4
 cases ha
 refine .inr ⟨g, 0, rfl, by rw [put4_size]; exact hlt, fun i hi => ?_⟩
 unfold put4
 rw [World.cell?_of_block (Below.heap_setCell _ _ _ _ (by exact hne)), World.cell?_of_block (Below.heap_setCell _ _ _ _ (by exact hne)), World.cell?_of_block (Below.heap_setCell _ _ _ _ (by exact hne)), World.cell?_of_block (Below.heap_setCell _ _ _ _ (by exact hne))]
 exact hc i hi
theorem OwnT.put {w : World} {g len : Nat} {bs : List Int} {c i0 i1 i2 i3 : Nat} {x : Tm} (h : OwnT w g len bs) (hne : g ≠ c) : OwnT (put4 w c i0 i1 i2 i3 x) g len bs := by
 obtain ⟨h1, h2, h3, h4⟩ := h
 have e : ∀ i, (put4 w c i0 i1 i2 i3 x).cell? ⟨g, i, none⟩ = w.cell? ⟨g, i, none⟩ := fun i => by
   unfold put4
   rw [World.cell?_of_block (Below.heap_setCell _ _ _ _ (by exact hne)), World.cell?_of_block (Below.heap_setCell _ _ _ _ (by exact hne)), World.cell?_of_block (Below.heap_setCell _ _ _ _ (by exact hne)), World.cell?_of_block (Below.heap_setCell _ _ _ _ (by exact hne))]
 exact ⟨h1.put hne, by rw [put4_size]; exact h2, fun i hi => by rw [e i]; exact h3 i hi, fun i hi => by simp [put4, h4 i hi]⟩
/- TriC -/
def Tm.like (t t' : Tm) : Prop := t.k = t'.k ∧ t.n = t'.n ∧ t.s = t'.s
theorem isSubject_any (t : Tm) (bt : List Int) (w : World) (ft : t.fits) (hT : Bs w t.a t.len bt) :
   Calls Tryz.prog 197 #[.agg #[.int .i64 t.k, .slice t.a t.len t.cap, .int .i64 t.n, .int .i64 t.s]] w fun e w' => e = .returned (.bool (termOk t.k bt t.n t.s && decide (t.k ≤ 1))) ∧ Bl w w' := by
 have O1 := fun w h => implTermOk_any t.k t.n t.s t.a t.len t.cap bt w h ft.1 ft.2.1 ft.2.2.1 ft.2.2.2
 clear ft
 cases e1 : termOk t.k bt t.n t.s
 · rw [e1] at O1
   clear e1
   go_in
   go_wp2_with fail
   refine (O1 _ (hT.below (bl_a _))).mono ?_
   rintro e w1 ⟨rfl, hb1⟩
   go_wp2
   go_ret
   exact ⟨rfl, bl_trans (bl_a _) hb1⟩
 have hk : 0 ≤ t.k := by
   unfold termOk at e1
   split at e1
   · omega
   split at e1
   · omega
   split at e1
   · omega
   split at e1
   · omega
   cases e1
 rw [e1] at O1
 clear e1
 simp only [Bool.true_and]
 cases c0 : (t.k == 0)
 · have er : Hid (decide (t.k ≤ 1) = (t.k == 1)) := by
     show _ = _
     have : t.k ≠ 0 := by simpa using c0
     by_cases c1 : t.k = 1
     · simp [c1]
     have : ¬ t.k ≤ 1 := by omega
     simp [c1, this]
   go_in
   go_wp2_with fail
   refine (O1 _ (hT.below (bl_a _))).mono ?_
   rintro e w1 ⟨rfl, hb1⟩
   have hA := (At4.new w _ _ _ _ _).below hb1
   obtain ⟨x0, x1, x2, x3, x4⟩ := id hA
   go_wp2
   go_ret
   exact ⟨by rw [er.out]; rfl, bl_trans (bl_a _) hb1⟩
 have er : Hid (decide (t.k ≤ 1) = true) := by
   show _ = _
   have : t.k = 0 := by simpa using c0
   simp [this]
 go_in
 go_wp2_with fail
 refine (O1 _ (hT.below (bl_a _))).mono ?_
 rintro e w1 ⟨rfl, hb1⟩
 have hA := (At4.new w _ _ _ _ _).below hb1
 obtain ⟨x0, x1, x2, x3, x4⟩ := id hA
 go_wp2
 go_ret
 exact ⟨by rw [er.out]; rfl, bl_trans (bl_a _) hb1⟩
theorem isProperty_any (t : Tm) (bt : List Int) (w : World) (ft : t.fits) (hT : Bs w t.a t.len bt) :
   Calls Tryz.prog 198 #[.agg #[.int .i64 t.k, .slice t.a t.len t.cap, .int .i64 t.n, .int .i64 t.s]] w fun e w' => e = .returned (.bool (termOk t.k bt t.n t.s && (t.k == 0))) ∧ Bl w w' := by
 have O1 := fun w h => implTermOk_any t.k t.n t.s t.a t.len t.cap bt w h ft.1 ft.2.1 ft.2.2.1 ft.2.2.2
 clear ft
 cases e1 : termOk t.k bt t.n t.s
 · rw [e1] at O1
   clear e1
   go_in
   go_wp2_with fail
   refine (O1 _ (hT.below (bl_a _))).mono ?_
   rintro e w1 ⟨rfl, hb1⟩
   go_wp2
   go_ret
   exact ⟨rfl, bl_trans (bl_a _) hb1⟩
 rw [e1] at O1
 clear e1
 simp only [Bool.true_and]
 go_in
 go_wp2_with fail
 refine (O1 _ (hT.below (bl_a _))).mono ?_
 rintro e w1 ⟨rfl, hb1⟩
 have hA := (At4.new w _ _ _ _ _).below hb1
 obtain ⟨x0, x1, x2, x3, x4⟩ := id hA
 go_wp2
 go_ret
 exact ⟨rfl, bl_trans (bl_a _) hb1⟩
/- GraA -/
def Row12 (w : World) (b o : Nat) (t u v : Tm) : Prop :=
 (w.cell? ⟨b, o, none⟩ = some (.int .i64 t.k) ∧ w.cell? ⟨b, o + 1, none⟩ = some (.slice t.a t.len t.cap) ∧ w.cell? ⟨b, o + 2, none⟩ = some (.int .i64 t.n) ∧ w.cell? ⟨b, o + 3, none⟩ = some (.int .i64 t.s)) ∧
   (w.cell? ⟨b, o + 4, none⟩ = some (.int .i64 u.k) ∧ w.cell? ⟨b, o + 5, none⟩ = some (.slice u.a u.len u.cap) ∧ w.cell? ⟨b, o + 6, none⟩ = some (.int .i64 u.n) ∧ w.cell? ⟨b, o + 7, none⟩ = some (.int .i64 u.s)) ∧
   (w.cell? ⟨b, o + 8, none⟩ = some (.int .i64 v.k) ∧ w.cell? ⟨b, o + 9, none⟩ = some (.slice v.a v.len v.cap) ∧ w.cell? ⟨b, o + 10, none⟩ = some (.int .i64 v.n) ∧ w.cell? ⟨b, o + 11, none⟩ = some (.int .i64 v.s))
def Rows (w : World) (a : Option Addr) (n : Nat) (T U V : Nat → Tm) : Prop :=
 n = 0 ∨ ∃ b off, a = some ⟨b, off, none⟩ ∧ b < w.heap.size ∧ ∀ i, i < n → Row12 w b (off + i * 12) (T i) (U i) (V i)
theorem Row12.of_block {w w' : World} {b o : Nat} {t u v : Tm} (h : Row12 w b o t u v) (hb : w'.heap[b]? = w.heap[b]?) : Row12 w' b o t u v := by
 have e := fun i => World.cell?_of_block (w := w) (a := ⟨b, i, none⟩) hb
 unfold Row12
 simp only [e]
 exact h
theorem Rows.below {w w' : World} {a : Option Addr} {n : Nat} {T U V : Nat → Tm} (h : Rows w a n T U V) (hb : Bl w w') : Rows w' a n T U V := by
 rcases h with h | ⟨b, off, ha, hlt, hc⟩
 · exact .inl h
 exact .inr ⟨b, off, ha, Nat.lt_of_lt_of_le hlt hb.size, fun i hi => (hc i hi).of_block (hb.block b hlt)⟩
def Texts (w : World) (n : Nat) (T : Nat → Tm) (B : Nat → List Int) : Prop := ∀ i, i < n → Bs w (T i).a (T i).len (B i)
theorem Texts.below {w w' : World} {n : Nat} {T : Nat → Tm} {B : Nat → List Int} (h : Texts w n T B) (hb : Bl w w') : Texts w' n T B := fun i hi => (h i hi).below hb
/- StrC -/
set_option maxRecDepth 100000
structure TB where
 t : Tm
 b : List Int
def TB.td (x : TB) : TD := ⟨x.t.k, x.b, x.t.n, x.t.s⟩
def enc4 (t : Tm) : List Value := [.int .i64 t.k, .slice t.a t.len t.cap, .int .i64 t.n, .int .i64 t.s]
def flat4 (l : List TB) : List Value := l.flatMap fun x => enc4 x.t
theorem flat4_len (l : List TB) : (flat4 l).length = l.length * 4 := by
 induction l with
 | nil => rfl
 | cons x l ih => simp only [flat4, List.flatMap_cons, List.length_append] at *; rw [ih]; simp [enc4]; omega
theorem flat4_get (l : List TB) (i c : Nat) (hi : i < l.length) (hc : c < 4) : (flat4 l)[i * 4 + c]? = (enc4 l[i].t)[c]? := by
 induction l generalizing i with
 | nil => cases hi
 | cons x l ih =>
   have e : flat4 (x :: l) = enc4 x.t ++ flat4 l := rfl
   rw [e]
   cases i with
   | zero => rw [List.getElem?_append_left (by simp [enc4]; omega)]; simp
   | succ i =>
     rw [List.getElem?_append_right (by simp [enc4]; omega)]
     have : (i + 1) * 4 + c - (enc4 x.t).length = i * 4 + c := by simp [enc4]; omega
     rw [this, ih i (by simpa using hi)]
     rfl
theorem flat4_take (l : List TB) (i : Nat) : flat4 (l.take i) = (flat4 l).take (i * 4) := by
 induction l generalizing i with
 | nil => simp [flat4]
 | cons x l ih =>
   cases i with
   | zero => simp [flat4]
   | succ i =>
     have e : flat4 (x :: l) = enc4 x.t ++ flat4 l := rfl
     have e2 : flat4 (x :: l.take i) = enc4 x.t ++ flat4 (l.take i) := rfl
     rw [List.take_succ_cons, e, e2, ih, show (i + 1) * 4 = (enc4 x.t).length + i * 4 by simp [enc4]; omega, List.take_length_add_append]
theorem flat4_drop (l : List TB) (i : Nat) : flat4 (l.drop i) = (flat4 l).drop (i * 4) := by
 induction l generalizing i with
 | nil => simp [flat4]
 | cons x l ih =>
   cases i with
   | zero => simp
   | succ i =>
     have e : flat4 (x :: l) = enc4 x.t ++ flat4 l := rfl
     rw [List.drop_succ_cons, e, ih, show (i + 1) * 4 = (enc4 x.t).length + i * 4 by simp [enc4]; omega, List.drop_length_add_append]
def TRow (w : World) (a : Option Addr) (l : List TB) : Prop := l = [] ∨ ∃ b off, a = some ⟨b, off, none⟩ ∧ b < w.heap.size ∧ ∀ j u, (flat4 l)[j]? = some u → w.cell? ⟨b, off + j, none⟩ = some u
theorem TRow.below {w w' : World} {a : Option Addr} {l : List TB} (h : TRow w a l) (hb : Bl w w') : TRow w' a l := by
 rcases h with h | ⟨b, off, ha, hl, hc⟩
 · exact .inl h
 exact .inr ⟨b, off, ha, Nat.lt_of_lt_of_le hl hb.size, fun j u hu => (hb.cell (p := ⟨b, off + j, none⟩) hl).trans (hc j u hu)⟩
theorem TRow.at {w : World} {b off : Nat} {l : List TB} (hc : ∀ j u, (flat4 l)[j]? = some u → w.cell? ⟨b, off + j, none⟩ = some u) (i : Nat) (hi : i < l.length) :
   w.cell? ⟨b, off + i * 4, none⟩ = some (.int .i64 l[i].t.k) ∧ w.cell? ⟨b, off + i * 4 + 1, none⟩ = some (.slice l[i].t.a l[i].t.len l[i].t.cap) ∧ w.cell? ⟨b, off + i * 4 + 2, none⟩ = some (.int .i64 l[i].t.n) ∧ w.cell? ⟨b, off + i * 4 + 3, none⟩ = some (.int .i64 l[i].t.s) := by
 refine ⟨hc (i * 4 + 0) _ ?_, ?_, ?_, ?_⟩
 · rw [flat4_get l i 0 hi (by omega)]; rfl
 · rw [Nat.add_assoc]; exact hc _ _ (by rw [flat4_get l i 1 hi (by omega)]; rfl)
 · rw [Nat.add_assoc]; exact hc _ _ (by rw [flat4_get l i 2 hi (by omega)]; rfl)
 rw [Nat.add_assoc]; exact hc _ _ (by rw [flat4_get l i 3 hi (by omega)]; rfl)
def TTxt (w : World) (l : List TB) : Prop := ∀ x ∈ l, Bs w x.t.a x.t.len x.b
theorem TTxt.below {w w' : World} {l : List TB} (h : TTxt w l) (hb : Bl w w') : TTxt w' l := fun x hx => (h x hx).below hb
def OwnTR (w : World) (B : Nat) (v : Value) (l : List TB) : Prop := w.ownsRow B 93 4 v l.length (flat4 l) ∧ ∀ g, v.ownBlock = some g → B ≤ g ∧ g < w.heap.size
theorem OwnTR.nil (w : World) (B : Nat) : OwnTR w B (.slice none 0 0) [] := ⟨World.ownsRow_nil _ _ _ _, fun g h => by cases h⟩
theorem OwnTR.below {w w' : World} {B : Nat} {v : Value} {l : List TB} (h : OwnTR w B v l) (hb : Bl w w') : OwnTR w' B v l := by
 obtain ⟨⟨h1, h2⟩, hl⟩ := h
 refine ⟨⟨h1, ?_⟩, fun g hg => ⟨(hl g hg).1, Nat.lt_of_lt_of_le (hl g hg).2 hb.size⟩⟩
 rcases h2 with h2 | ⟨g', cap', cur, hv, hB, hh, r⟩
 · exact .inl h2
 refine .inr ⟨g', cap', cur, hv, hB, ?_, r⟩
 have := (hl g' (by rw [hv]; rfl)).2
 rw [hb.block g' this]
 exact hh
theorem OwnTR.form {w : World} {B : Nat} {v : Value} {l : List TB} (h : OwnTR w B v l) : ∃ a cap, v = .slice a l.length cap ∧ TRow w a l ∧ l.length ≤ cap ∧ (a = none → l = [] ∧ cap = 0) ∧ ∀ x, a = some x → ∃ g, x = ⟨g, 0, none⟩ ∧ B ≤ g ∧ g < w.heap.size := by
 rcases h.1.2 with ⟨rfl, h0⟩ | ⟨g, cap, cur, rfl, hB, hh, hle, _, hsz, htk⟩
 · have := List.eq_nil_of_length_eq_zero h0
   subst this
   exact ⟨none, 0, rfl, .inl rfl, by simp, fun _ => ⟨rfl, rfl⟩, fun x hx => by cases hx⟩
 have hlt := (h.2 g rfl).2
 refine ⟨some _, cap, rfl, .inr ⟨g, 0, rfl, hlt, fun j u hu => ?_⟩, hle, fun hx => (by cases hx), fun x hx => by cases hx; exact ⟨g, rfl, hB, hlt⟩⟩
 rw [Nat.zero_add]
 have hj : j < l.length * 4 := by
   apply Classical.byContradiction
   intro hn
   rw [List.getElem?_eq_none (by rw [flat4_len]; omega)] at hu
   cases hu
 rw [← htk, List.getElem?_take, if_pos hj] at hu
 simp only [World.cell?, hh]
 simpa using hu
theorem Tryz.info93 : (Tryz.prog.info? 93).map (fun i => (i.zero, i.size, i.bytes)) = some (some (.agg #[.int .i64 0, .slice none 0 0, .int .i64 0, .int .i64 0]), 4, 48) := by kernel_rfl
theorem TRow.news {w : World} {b off : Nat} {l : List TB} (hc : ∀ j u, (flat4 l)[j]? = some u → w.cell? ⟨b, off + j, none⟩ = some u) (i m : Nat) :
   ∀ j u, (flat4 ((l.drop i).take m))[j]? = some u → w.cell? ((⟨b, off + i * 4, none⟩ : Addr).add j) = some u := by
 intro j u hu
 have ea : (⟨b, off + i * 4, none⟩ : Addr).add j = ⟨b, off + (i * 4 + j), none⟩ := by
   by_cases h0 : j = 0 <;> simp [Addr.add, h0, Nat.add_assoc]
 rw [ea]
 refine hc _ _ ?_
 rw [flat4_take, flat4_drop, List.getElem?_take] at hu
 split at hu
 · rw [List.getElem?_drop] at hu; exact hu
 cases hu
/- TreA -/
structure SL where
 a : Option Addr
 len : Nat
 cap : Nat
 b : List Int
structure Upper (B : Nat) (w w' : World) : Prop where
 size : w.heap.size ≤ w'.heap.size
 block : ∀ b, B ≤ b → b < w.heap.size → w'.heap[b]? = w.heap[b]?
theorem Upper.cell {B : Nat} {w w' : World} (h : Upper B w w') {b o : Nat} (h1 : B ≤ b) (h2 : b < w.heap.size) : w'.cell? ⟨b, o, none⟩ = w.cell? ⟨b, o, none⟩ := World.cell?_of_block (w := w) (a := ⟨b, o, none⟩) (h.block b h1 h2)
theorem Upper.of_below {B : Nat} {w w' : World} (h : Bl w w') : Upper B w w' := ⟨h.size, fun b _ hb => h.block b hb⟩
theorem uB {B : Nat} {w w' : World} (h : Below w.heap.size w w') : Upper B w w' := Upper.of_below h
def BsF (B : Nat) (w : World) (x : SL) : Prop := Bs w x.a x.len x.b ∧ (x.len = 0 ∨ ∀ p, x.a = some p → B ≤ p.block)
theorem BsF.upper {B : Nat} {w w' : World} {x : SL} (h : BsF B w x) (hu : Upper B w w') : BsF B w' x := by
 obtain ⟨⟨h1, h2, h3, h4⟩, h5⟩ := h
 refine ⟨⟨h1, h2, h3, ?_⟩, h5⟩
 rcases h4 with h4 | ⟨b, off, ha, hlt, hc⟩
 · exact .inl h4
 by_cases h0 : x.len = 0
 · exact .inl h0
 have hB := (h5.resolve_left h0) _ ha
 exact .inr ⟨b, off, ha, Nat.lt_of_lt_of_le hlt hu.size, fun i hi => (hu.cell hB hlt).trans (hc i hi)⟩
theorem BsF.base {B B' : Nat} {w : World} {x : SL} (h : BsF B w x) (hB : B' ≤ B) : BsF B' w x := ⟨h.1, h.2.imp id fun h p hp => Nat.le_trans hB (h p hp)⟩
def TB.sl (x : TB) : SL := ⟨x.t.a, x.t.len, x.t.cap, x.b⟩
def KRow (B : Nat) (w : World) (sz : Nat) (a : Option Addr) (n : Nat) (C : Nat → List Value) : Prop :=
 n = 0 ∨ ∃ b off, a = some ⟨b, off, none⟩ ∧ B ≤ b ∧ b < w.heap.size ∧ ∀ i, i < n → ∀ c u, (C i)[c]? = some u → w.cell? ⟨b, off + i * sz + c, none⟩ = some u
theorem KRow.upper {B : Nat} {w w' : World} {sz : Nat} {a : Option Addr} {n : Nat} {C : Nat → List Value} (h : KRow B w sz a n C) (hu : Upper B w w') : KRow B w' sz a n C := by
 rcases h with h | ⟨b, off, ha, hB, hlt, hc⟩
 · exact .inl h
 exact .inr ⟨b, off, ha, hB, Nat.lt_of_lt_of_le hlt hu.size, fun i hi c u hcu => (hu.cell hB hlt).trans (hc i hi c u hcu)⟩
theorem KRow.base {B B' : Nat} {w : World} {sz : Nat} {a : Option Addr} {n : Nat} {C : Nat → List Value} (h : KRow B w sz a n C) (hB : B' ≤ B) : KRow B' w sz a n C := by
 rcases h with h | ⟨b, off, ha, hB', h⟩
 · exact .inl h
 exact .inr ⟨b, off, ha, Nat.le_trans hB hB', h⟩
def Cm (w : World) (x : SL) : Prop := x.len ≤ 9223372036854775807 ∧ (x.len ≤ 1048576 → Bs w x.a x.len x.b)
theorem Cm.below {w w' : World} {x : SL} (h : Cm w x) (hb : Bl w w') : Cm w' x := ⟨h.1, fun hs => (h.2 hs).below hb⟩
theorem Cm.bs {w : World} {x : SL} (h : Cm w x) (hs : x.len ≤ 1048576) : BsF 0 w x := ⟨h.2 hs, .inr fun _ _ => Nat.zero_le _⟩
structure IB where
 v : SL
 t : TB
def IB.cells (x : IB) : List Value := [.slice x.v.a x.v.len x.v.cap, .int .i64 x.t.t.k, .slice x.t.t.a x.t.t.len x.t.t.cap, .int .i64 x.t.t.n, .int .i64 x.t.t.s]
abbrev IB.cl (d : IB) : List Value := [.slice d.v.a d.v.len d.v.cap, .int .i64 d.t.t.k, .slice d.t.t.a d.t.t.len d.t.t.cap, .int .i64 d.t.t.n, .int .i64 d.t.t.s]
abbrev IB.ar (d : IB) : Array Value := #[.slice d.v.a d.v.len d.v.cap, .int .i64 d.t.t.k, .slice d.t.t.a d.t.t.len d.t.t.cap, .int .i64 d.t.t.n, .int .i64 d.t.t.s]
def IB.lies (B : Nat) (w : World) (x : IB) : Prop := BsF B w x.v ∧ BsF B w x.t.sl ∧ x.t.t.fits
def IB.came (w : World) (x : IB) : Prop := Cm w x.v ∧ Cm w x.t.sl ∧ x.t.t.fits
def IB.small (x : IB) : Prop := x.v.len ≤ 1048576 ∧ x.t.t.len ≤ 1048576
def IB.same (x y : IB) : Prop := x.v.b = y.v.b ∧ x.t.td = y.t.td
theorem IB.lies.upper {B : Nat} {w w' : World} {x : IB} (h : x.lies B w) (hu : Upper B w w') : x.lies B w' := ⟨h.1.upper hu, h.2.1.upper hu, h.2.2⟩
theorem IB.lies.base {B B' : Nat} {w : World} {x : IB} (h : x.lies B w) (hB : B' ≤ B) : x.lies B' w := ⟨h.1.base hB, h.2.1.base hB, h.2.2⟩
theorem IB.came.below {w w' : World} {x : IB} (h : x.came w) (hb : Bl w w') : x.came w' := ⟨h.1.below hb, h.2.1.below hb, h.2.2⟩
theorem IB.came.lies {w : World} {x : IB} (h : x.came w) (hs : x.small) : x.lies 0 w := ⟨h.1.bs hs.1, h.2.1.bs hs.2, h.2.2⟩
structure PB where
 s : IB
 p : IB
 o : IB
def PB.cells (x : PB) : List Value := [.slice x.s.v.a x.s.v.len x.s.v.cap, .int .i64 x.s.t.t.k, .slice x.s.t.t.a x.s.t.t.len x.s.t.t.cap, .int .i64 x.s.t.t.n, .int .i64 x.s.t.t.s,
 .slice x.p.v.a x.p.v.len x.p.v.cap, .int .i64 x.p.t.t.k, .slice x.p.t.t.a x.p.t.t.len x.p.t.t.cap, .int .i64 x.p.t.t.n, .int .i64 x.p.t.t.s,
 .slice x.o.v.a x.o.v.len x.o.v.cap, .int .i64 x.o.t.t.k, .slice x.o.t.t.a x.o.t.t.len x.o.t.t.cap, .int .i64 x.o.t.t.n, .int .i64 x.o.t.t.s]
abbrev PB.cl (d : PB) : List Value := [.slice d.s.v.a d.s.v.len d.s.v.cap, .int .i64 d.s.t.t.k, .slice d.s.t.t.a d.s.t.t.len d.s.t.t.cap, .int .i64 d.s.t.t.n, .int .i64 d.s.t.t.s, .slice d.p.v.a d.p.v.len d.p.v.cap, .int .i64 d.p.t.t.k, .slice d.p.t.t.a d.p.t.t.len d.p.t.t.cap, .int .i64 d.p.t.t.n, .int .i64 d.p.t.t.s, .slice d.o.v.a d.o.v.len d.o.v.cap, .int .i64 d.o.t.t.k, .slice d.o.t.t.a d.o.t.t.len d.o.t.t.cap, .int .i64 d.o.t.t.n, .int .i64 d.o.t.t.s]
abbrev PB.ar (d : PB) : Array Value := #[.slice d.s.v.a d.s.v.len d.s.v.cap, .int .i64 d.s.t.t.k, .slice d.s.t.t.a d.s.t.t.len d.s.t.t.cap, .int .i64 d.s.t.t.n, .int .i64 d.s.t.t.s, .slice d.p.v.a d.p.v.len d.p.v.cap, .int .i64 d.p.t.t.k, .slice d.p.t.t.a d.p.t.t.len d.p.t.t.cap, .int .i64 d.p.t.t.n, .int .i64 d.p.t.t.s, .slice d.o.v.a d.o.v.len d.o.v.cap, .int .i64 d.o.t.t.k, .slice d.o.t.t.a d.o.t.t.len d.o.t.t.cap, .int .i64 d.o.t.t.n, .int .i64 d.o.t.t.s]
def PB.lies (B : Nat) (w : World) (x : PB) : Prop := x.s.lies B w ∧ x.p.lies B w ∧ x.o.lies B w
def PB.came (w : World) (x : PB) : Prop := x.s.came w ∧ x.p.came w ∧ x.o.came w
def PB.small (x : PB) : Prop := x.s.small ∧ x.p.small ∧ x.o.small
def PB.same (x y : PB) : Prop := x.s.same y.s ∧ x.p.same y.p ∧ x.o.same y.o
theorem PB.lies.upper {B : Nat} {w w' : World} {x : PB} (h : x.lies B w) (hu : Upper B w w') : x.lies B w' := ⟨h.1.upper hu, h.2.1.upper hu, h.2.2.upper hu⟩
theorem PB.lies.base {B B' : Nat} {w : World} {x : PB} (h : x.lies B w) (hB : B' ≤ B) : x.lies B' w := ⟨h.1.base hB, h.2.1.base hB, h.2.2.base hB⟩
theorem PB.came.below {w w' : World} {x : PB} (h : x.came w) (hb : Bl w w') : x.came w' := ⟨h.1.below hb, h.2.1.below hb, h.2.2.below hb⟩
theorem PB.came.lies {w : World} {x : PB} (h : x.came w) (hs : x.small) : x.lies 0 w := ⟨IB.came.lies h.1 hs.1, IB.came.lies h.2.1 hs.2.1, IB.came.lies h.2.2 hs.2.2⟩
structure EN where
 k : Int
 op : Int
 v : SL
 t : TB
 ka : Option Addr
 kc : Nat
 n : Nat
def EN.cells (d : EN) : List Value := [.int .i64 d.k, .int .i64 d.op, .slice d.v.a d.v.len d.v.cap, .int .i64 d.t.t.k, .slice d.t.t.a d.t.t.len d.t.t.cap, .int .i64 d.t.t.n, .int .i64 d.t.t.s, .slice d.ka d.n d.kc]
abbrev EN.cl (d : EN) : List Value := [.int .i64 d.k, .int .i64 d.op, .slice d.v.a d.v.len d.v.cap, .int .i64 d.t.t.k, .slice d.t.t.a d.t.t.len d.t.t.cap, .int .i64 d.t.t.n, .int .i64 d.t.t.s, .slice d.ka d.n d.kc]
abbrev EN.ar (d : EN) : Array Value := #[.int .i64 d.k, .int .i64 d.op, .slice d.v.a d.v.len d.v.cap, .int .i64 d.t.t.k, .slice d.t.t.a d.t.t.len d.t.t.cap, .int .i64 d.t.t.n, .int .i64 d.t.t.s, .slice d.ka d.n d.kc]
abbrev EN.ck (d : EN) (k : Int) : List Value := [.int .i64 k, .int .i64 d.op, .slice d.v.a d.v.len d.v.cap, .int .i64 d.t.t.k, .slice d.t.t.a d.t.t.len d.t.t.cap, .int .i64 d.t.t.n, .int .i64 d.t.t.s, .slice d.ka d.n d.kc]
abbrev EN.ca (d : EN) (k : Int) : Array Value := #[.int .i64 k, .int .i64 d.op, .slice d.v.a d.v.len d.v.cap, .int .i64 d.t.t.k, .slice d.t.t.a d.t.t.len d.t.t.cap, .int .i64 d.t.t.n, .int .i64 d.t.t.s, .slice d.ka d.n d.kc]
abbrev uL (k : Int) (p : PB) (e : EN) (v : SL) (s t u : Value) : List Value := [.int .i64 k, .slice p.s.v.a p.s.v.len p.s.v.cap, .int .i64 p.s.t.t.k, .slice p.s.t.t.a p.s.t.t.len p.s.t.t.cap, .int .i64 p.s.t.t.n, .int .i64 p.s.t.t.s, .slice p.p.v.a p.p.v.len p.p.v.cap, .int .i64 p.p.t.t.k, .slice p.p.t.t.a p.p.t.t.len p.p.t.t.cap, .int .i64 p.p.t.t.n, .int .i64 p.p.t.t.s, .slice p.o.v.a p.o.v.len p.o.v.cap, .int .i64 p.o.t.t.k, .slice p.o.t.t.a p.o.t.t.len p.o.t.t.cap, .int .i64 p.o.t.t.n, .int .i64 p.o.t.t.s, .int .i64 e.k, .int .i64 e.op, .slice e.v.a e.v.len e.v.cap, .int .i64 e.t.t.k, .slice e.t.t.a e.t.t.len e.t.t.cap, .int .i64 e.t.t.n, .int .i64 e.t.t.s, .slice e.ka e.n e.kc, .slice v.a v.len v.cap, s, t, u]
abbrev uA (k : Int) (p : PB) (e : EN) (v : SL) (s t u : Value) : Array Value := #[.int .i64 k, .slice p.s.v.a p.s.v.len p.s.v.cap, .int .i64 p.s.t.t.k, .slice p.s.t.t.a p.s.t.t.len p.s.t.t.cap, .int .i64 p.s.t.t.n, .int .i64 p.s.t.t.s, .slice p.p.v.a p.p.v.len p.p.v.cap, .int .i64 p.p.t.t.k, .slice p.p.t.t.a p.p.t.t.len p.p.t.t.cap, .int .i64 p.p.t.t.n, .int .i64 p.p.t.t.s, .slice p.o.v.a p.o.v.len p.o.v.cap, .int .i64 p.o.t.t.k, .slice p.o.t.t.a p.o.t.t.len p.o.t.t.cap, .int .i64 p.o.t.t.n, .int .i64 p.o.t.t.s, .int .i64 e.k, .int .i64 e.op, .slice e.v.a e.v.len e.v.cap, .int .i64 e.t.t.k, .slice e.t.t.a e.t.t.len e.t.t.cap, .int .i64 e.t.t.n, .int .i64 e.t.t.s, .slice e.ka e.n e.kc, .slice v.a v.len v.cap, s, t, u]
abbrev eL (k o : Int) (v : SL) (t : TB) (s : Value) : List Value := [.int .i64 k, .int .i64 o, .slice v.a v.len v.cap, .int .i64 t.t.k, .slice t.t.a t.t.len t.t.cap, .int .i64 t.t.n, .int .i64 t.t.s, s]
abbrev eA (k o : Int) (v : SL) (t : TB) (s : Value) : Array Value := #[.int .i64 k, .int .i64 o, .slice v.a v.len v.cap, .int .i64 t.t.k, .slice t.t.a t.t.len t.t.cap, .int .i64 t.t.n, .int .i64 t.t.s, s]
abbrev pL (s p o : IB) : List Value := [.slice s.v.a s.v.len s.v.cap, .int .i64 s.t.t.k, .slice s.t.t.a s.t.t.len s.t.t.cap, .int .i64 s.t.t.n, .int .i64 s.t.t.s, .slice p.v.a p.v.len p.v.cap, .int .i64 p.t.t.k, .slice p.t.t.a p.t.t.len p.t.t.cap, .int .i64 p.t.t.n, .int .i64 p.t.t.s, .slice o.v.a o.v.len o.v.cap, .int .i64 o.t.t.k, .slice o.t.t.a o.t.t.len o.t.t.cap, .int .i64 o.t.t.n, .int .i64 o.t.t.s]
abbrev pA (s p o : IB) : Array Value := #[.slice s.v.a s.v.len s.v.cap, .int .i64 s.t.t.k, .slice s.t.t.a s.t.t.len s.t.t.cap, .int .i64 s.t.t.n, .int .i64 s.t.t.s, .slice p.v.a p.v.len p.v.cap, .int .i64 p.t.t.k, .slice p.t.t.a p.t.t.len p.t.t.cap, .int .i64 p.t.t.n, .int .i64 p.t.t.s, .slice o.v.a o.v.len o.v.cap, .int .i64 o.t.t.k, .slice o.t.t.a o.t.t.len o.t.t.cap, .int .i64 o.t.t.n, .int .i64 o.t.t.s]
def EN0 : EN := ⟨0, 0, ⟨none, 0, 0, []⟩, ⟨⟨0, none, 0, 0, 0, 0⟩, []⟩, none, 0, 0⟩
inductive ET where
 | nil
 | mk (d : EN) (kid : Nat → ET)
def ET.d : ET → EN
 | .nil => EN0
 | .mk d _ => d
def ET.lies (B : Nat) (w : World) : ET → Prop
 | .nil => False
 | .mk d kid => BsF B w d.v ∧ BsF B w d.t.sl ∧ d.t.t.fits ∧ d.n ≤ 1048576 ∧ KRow B w 8 d.ka d.n (fun i => (kid i).d.cells) ∧ ∀ i, i < d.n → (kid i).lies B w
def ET.came (w : World) : ET → Prop
 | .nil => False
 | .mk d kid => Cm w d.v ∧ Cm w d.t.sl ∧ d.t.t.fits ∧ d.n ≤ 9223372036854775807 ∧ KRow 0 w 8 d.ka d.n (fun i => (kid i).d.cells) ∧ ∀ i, i < d.n → (kid i).came w
def ET.small : ET → Prop
 | .nil => False
 | .mk d kid => d.v.len ≤ 1048576 ∧ d.t.t.len ≤ 1048576 ∧ d.n ≤ 1048576 ∧ ∀ i, i < d.n → (kid i).small
def ET.same : ET → ET → Prop
 | .mk d kid, .mk d' kid' => d.k = d'.k ∧ d.op = d'.op ∧ d.v.b = d'.v.b ∧ d.t.td = d'.t.td ∧ d.n = d'.n ∧ ∀ i, i < d.n → (kid i).same (kid' i)
 | _, _ => False
theorem ET.lies.upper {B : Nat} {w w' : World} (hu : Upper B w w') {e : ET} (h : e.lies B w) : e.lies B w' := by
 induction e with
 | nil => exact False.elim h
 | mk d kid ih => exact ⟨h.1.upper hu, h.2.1.upper hu, h.2.2.1, h.2.2.2.1, h.2.2.2.2.1.upper hu, fun i hi => ih i (h.2.2.2.2.2 i hi)⟩
theorem ET.lies.base {B B' : Nat} {w : World} (hB : B' ≤ B) {e : ET} (h : e.lies B w) : e.lies B' w := by
 induction e with
 | nil => exact False.elim h
 | mk d kid ih => exact ⟨h.1.base hB, h.2.1.base hB, h.2.2.1, h.2.2.2.1, h.2.2.2.2.1.base hB, fun i hi => ih i (h.2.2.2.2.2 i hi)⟩
theorem ET.lies.below {B : Nat} {w w' : World} {e : ET} (h : e.lies B w) (hb : Bl w w') : e.lies B w' := ET.lies.upper (uB hb) h
theorem ET.came.below {w w' : World} (hb : Bl w w') {e : ET} (h : e.came w) : e.came w' := by
 induction e with
 | nil => exact False.elim h
 | mk d kid ih => exact ⟨h.1.below hb, h.2.1.below hb, h.2.2.1, h.2.2.2.1, h.2.2.2.2.1.upper (uB hb), fun i hi => ih i (h.2.2.2.2.2 i hi)⟩
theorem ET.came.lies {w : World} {e : ET} (h : e.came w) (hs : e.small) : e.lies 0 w := by
 induction e with
 | nil => exact False.elim h
 | mk d kid ih => exact ⟨h.1.bs hs.1, h.2.1.bs hs.2.1, h.2.2.1, hs.2.2.1, h.2.2.2.2.1, fun i hi => ih i (h.2.2.2.2.2 i hi) (hs.2.2.2 i hi)⟩
structure AN where
 k : Int
 pa : Option Addr
 pc : Nat
 pn : Nat
 pat : Nat → PB
 e : ET
 v : SL
 ta : Option Addr
 tc : Nat
 tb : List TB
 ka : Option Addr
 kc : Nat
 n : Nat
def AN.cells (d : AN) : List Value := [.int .i64 d.k, .slice d.pa d.pn d.pc, .int .i64 d.e.d.k, .int .i64 d.e.d.op, .slice d.e.d.v.a d.e.d.v.len d.e.d.v.cap, .int .i64 d.e.d.t.t.k, .slice d.e.d.t.t.a d.e.d.t.t.len d.e.d.t.t.cap, .int .i64 d.e.d.t.t.n, .int .i64 d.e.d.t.t.s, .slice d.e.d.ka d.e.d.n d.e.d.kc,
 .slice d.v.a d.v.len d.v.cap, .slice d.ta d.tb.length d.tc, .slice d.ka d.n d.kc]
def AN0 : AN := ⟨0, none, 0, 0, fun _ => ⟨⟨⟨none, 0, 0, []⟩, ⟨⟨0, none, 0, 0, 0, 0⟩, []⟩⟩, ⟨⟨none, 0, 0, []⟩, ⟨⟨0, none, 0, 0, 0, 0⟩, []⟩⟩, ⟨⟨none, 0, 0, []⟩, ⟨⟨0, none, 0, 0, 0, 0⟩, []⟩⟩⟩, .nil, ⟨none, 0, 0, []⟩, none, 0, [], none, 0, 0⟩
inductive AT where
 | nil
 | mk (d : AN) (kid : Nat → AT)
def AT.d : AT → AN
 | .nil => AN0
 | .mk d _ => d
def TRowF (B : Nat) (w : World) (a : Option Addr) (l : List TB) : Prop := TRow w a l ∧ (l = [] ∨ ∀ p, a = some p → B ≤ p.block) ∧ ∀ x ∈ l, BsF B w x.sl ∧ x.t.fits
theorem TRowF.upper {B : Nat} {w w' : World} {a : Option Addr} {l : List TB} (h : TRowF B w a l) (hu : Upper B w w') : TRowF B w' a l := by
 obtain ⟨h1, h2, h3⟩ := h
 refine ⟨?_, h2, fun x hx => ⟨(h3 x hx).1.upper hu, (h3 x hx).2⟩⟩
 rcases h1 with h1 | ⟨b, off, ha, hlt, hc⟩
 · exact .inl h1
 by_cases h0 : l = []
 · exact .inl h0
 have hB := (h2.resolve_left h0) _ ha
 exact .inr ⟨b, off, ha, Nat.lt_of_lt_of_le hlt hu.size, fun j u hju => (hu.cell hB hlt).trans (hc j u hju)⟩
theorem TRowF.base {B B' : Nat} {w : World} {a : Option Addr} {l : List TB} (h : TRowF B w a l) (hB : B' ≤ B) : TRowF B' w a l := ⟨h.1, h.2.1.imp id fun h p hp => Nat.le_trans hB (h p hp), fun x hx => ⟨(h.2.2 x hx).1.base hB, (h.2.2 x hx).2⟩⟩
theorem TRowF.txt {B : Nat} {w : World} {a : Option Addr} {l : List TB} (h : TRowF B w a l) : TTxt w l := fun x hx => (h.2.2 x hx).1.1
def AT.lies (B : Nat) (w : World) : AT → Prop
 | .nil => False
 | .mk d kid => KRow B w 15 d.pa d.pn (fun i => (d.pat i).cells) ∧ (∀ i, i < d.pn → (d.pat i).lies B w) ∧ d.pn ≤ 1048576 ∧ d.e.lies B w ∧ BsF B w d.v ∧ TRowF B w d.ta d.tb ∧ d.tb.length ≤ 1048576 ∧ d.n ≤ 1048576 ∧ KRow B w 13 d.ka d.n (fun i => (kid i).d.cells) ∧ ∀ i, i < d.n → (kid i).lies B w
def TCm (w : World) (a : Option Addr) (l : List TB) : Prop := TRow w a l ∧ l.length ≤ 9223372036854775807 ∧ ∀ x ∈ l, Cm w x.sl ∧ x.t.fits
theorem TCm.below {w w' : World} {a : Option Addr} {l : List TB} (h : TCm w a l) (hb : Bl w w') : TCm w' a l := ⟨h.1.below hb, h.2.1, fun x hx => ⟨(h.2.2 x hx).1.below hb, (h.2.2 x hx).2⟩⟩
theorem TCm.lies {w : World} {a : Option Addr} {l : List TB} (h : TCm w a l) (hs : ∀ x ∈ l, x.t.len ≤ 1048576) : TRowF 0 w a l := ⟨h.1, .inr fun _ _ => Nat.zero_le _, fun x hx => ⟨(h.2.2 x hx).1.bs (hs x hx), (h.2.2 x hx).2⟩⟩
def AT.came (w : World) : AT → Prop
 | .nil => False
 | .mk d kid => KRow 0 w 15 d.pa d.pn (fun i => (d.pat i).cells) ∧ (∀ i, i < d.pn → (d.pat i).came w) ∧ d.pn ≤ 9223372036854775807 ∧ d.e.came w ∧ Cm w d.v ∧ TCm w d.ta d.tb ∧ d.n ≤ 9223372036854775807 ∧ KRow 0 w 13 d.ka d.n (fun i => (kid i).d.cells) ∧ ∀ i, i < d.n → (kid i).came w
def AT.small : AT → Prop
 | .nil => False
 | .mk d kid => d.pn ≤ 1048576 ∧ (∀ i, i < d.pn → (d.pat i).small) ∧ d.e.small ∧ d.v.len ≤ 1048576 ∧ (d.tb.length ≤ 1048576 ∧ ∀ x ∈ d.tb, x.t.len ≤ 1048576) ∧ d.n ≤ 1048576 ∧ ∀ i, i < d.n → (kid i).small
def AT.same : AT → AT → Prop
 | .mk d kid, .mk d' kid' => d.k = d'.k ∧ d.pn = d'.pn ∧ (∀ i, i < d.pn → (d.pat i).same (d'.pat i)) ∧ d.e.same d'.e ∧ d.v.b = d'.v.b ∧ d.tb.map TB.td = d'.tb.map TB.td ∧ d.n = d'.n ∧ ∀ i, i < d.n → (kid i).same (kid' i)
 | _, _ => False
theorem AT.lies.upper {B : Nat} {w w' : World} (hu : Upper B w w') {e : AT} (h : e.lies B w) : e.lies B w' := by
 induction e with
 | nil => exact False.elim h
 | mk d kid ih =>
   obtain ⟨h1, h2, h3, h4, h5, h6, h7, h8, h9, h10⟩ := h
   exact ⟨h1.upper hu, fun i hi => (h2 i hi).upper hu, h3, ET.lies.upper hu h4, h5.upper hu, h6.upper hu, h7, h8, h9.upper hu, fun i hi => ih i (h10 i hi)⟩
theorem AT.lies.base {B B' : Nat} {w : World} (hB : B' ≤ B) {e : AT} (h : e.lies B w) : e.lies B' w := by
 induction e with
 | nil => exact False.elim h
 | mk d kid ih =>
   obtain ⟨h1, h2, h3, h4, h5, h6, h7, h8, h9, h10⟩ := h
   exact ⟨h1.base hB, fun i hi => (h2 i hi).base hB, h3, ET.lies.base hB h4, h5.base hB, h6.base hB, h7, h8, h9.base hB, fun i hi => ih i (h10 i hi)⟩
theorem AT.lies.below {B : Nat} {w w' : World} {e : AT} (h : e.lies B w) (hb : Bl w w') : e.lies B w' := AT.lies.upper (uB hb) h
theorem AT.came.below {w w' : World} (hb : Bl w w') {e : AT} (h : e.came w) : e.came w' := by
 induction e with
 | nil => exact False.elim h
 | mk d kid ih =>
   obtain ⟨h1, h2, h3, h4, h5, h6, h7, h8, h9⟩ := h
   exact ⟨h1.upper (uB hb), fun i hi => (h2 i hi).below hb, h3, ET.came.below hb h4, h5.below hb, h6.below hb, h7, h8.upper (uB hb), fun i hi => ih i (h9 i hi)⟩
theorem AT.came.lies {w : World} {e : AT} (h : e.came w) (hs : e.small) : e.lies 0 w := by
 induction e with
 | nil => exact False.elim h
 | mk d kid ih =>
   obtain ⟨h1, h2, h3, h4, h5, h6, h7, h8, h9⟩ := h
   obtain ⟨s1, s2, s3, s4, ⟨s5, s6⟩, s7, s8⟩ := hs
   exact ⟨h1, fun i hi => PB.came.lies (h2 i hi) (s2 i hi), s1, ET.came.lies h4 s3, h5.bs s4, h6.lies s6, s5, s7, h8, fun i hi => ih i (h9 i hi) (s8 i hi)⟩
structure PN where
 k : Int
 ord : Int
 p : PB
 e : ET
 v : SL
 ta : Option Addr
 tc : Nat
 tb : List TB
 ka : Option Addr
 kc : Nat
 n : Nat
def PN.cells (d : PN) : List Value := [.int .i64 d.k, .int .i64 d.ord, .slice d.p.s.v.a d.p.s.v.len d.p.s.v.cap, .int .i64 d.p.s.t.t.k, .slice d.p.s.t.t.a d.p.s.t.t.len d.p.s.t.t.cap, .int .i64 d.p.s.t.t.n, .int .i64 d.p.s.t.t.s,
 .slice d.p.p.v.a d.p.p.v.len d.p.p.v.cap, .int .i64 d.p.p.t.t.k, .slice d.p.p.t.t.a d.p.p.t.t.len d.p.p.t.t.cap, .int .i64 d.p.p.t.t.n, .int .i64 d.p.p.t.t.s,
 .slice d.p.o.v.a d.p.o.v.len d.p.o.v.cap, .int .i64 d.p.o.t.t.k, .slice d.p.o.t.t.a d.p.o.t.t.len d.p.o.t.t.cap, .int .i64 d.p.o.t.t.n, .int .i64 d.p.o.t.t.s,
 .int .i64 d.e.d.k, .int .i64 d.e.d.op, .slice d.e.d.v.a d.e.d.v.len d.e.d.v.cap, .int .i64 d.e.d.t.t.k, .slice d.e.d.t.t.a d.e.d.t.t.len d.e.d.t.t.cap, .int .i64 d.e.d.t.t.n, .int .i64 d.e.d.t.t.s, .slice d.e.d.ka d.e.d.n d.e.d.kc,
 .slice d.v.a d.v.len d.v.cap, .slice d.ta d.tb.length d.tc, .slice d.ka d.n d.kc]
def PN0 : PN := ⟨0, 0, ⟨⟨⟨none, 0, 0, []⟩, ⟨⟨0, none, 0, 0, 0, 0⟩, []⟩⟩, ⟨⟨none, 0, 0, []⟩, ⟨⟨0, none, 0, 0, 0, 0⟩, []⟩⟩, ⟨⟨none, 0, 0, []⟩, ⟨⟨0, none, 0, 0, 0, 0⟩, []⟩⟩⟩, .nil, ⟨none, 0, 0, []⟩, none, 0, [], none, 0, 0⟩
inductive PT where
 | nil
 | mk (d : PN) (kid : Nat → PT)
def PT.d : PT → PN
 | .nil => PN0
 | .mk d _ => d
def PT.lies (B : Nat) (w : World) : PT → Prop
 | .nil => False
 | .mk d kid => d.p.lies B w ∧ d.e.lies B w ∧ BsF B w d.v ∧ TRowF B w d.ta d.tb ∧ d.tb.length ≤ 1048576 ∧ d.n ≤ 1048576 ∧ KRow B w 28 d.ka d.n (fun i => (kid i).d.cells) ∧ ∀ i, i < d.n → (kid i).lies B w
def PT.came (w : World) : PT → Prop
 | .nil => False
 | .mk d kid => d.p.came w ∧ d.e.came w ∧ Cm w d.v ∧ TCm w d.ta d.tb ∧ d.n ≤ 9223372036854775807 ∧ KRow 0 w 28 d.ka d.n (fun i => (kid i).d.cells) ∧ ∀ i, i < d.n → (kid i).came w
def PT.small : PT → Prop
 | .nil => False
 | .mk d kid => d.p.small ∧ d.e.small ∧ d.v.len ≤ 1048576 ∧ (d.tb.length ≤ 1048576 ∧ ∀ x ∈ d.tb, x.t.len ≤ 1048576) ∧ d.n ≤ 1048576 ∧ ∀ i, i < d.n → (kid i).small
def PT.same : PT → PT → Prop
 | .mk d kid, .mk d' kid' => d.k = d'.k ∧ d.ord = d'.ord ∧ d.p.same d'.p ∧ d.e.same d'.e ∧ d.v.b = d'.v.b ∧ d.tb.map TB.td = d'.tb.map TB.td ∧ d.n = d'.n ∧ ∀ i, i < d.n → (kid i).same (kid' i)
 | _, _ => False
theorem PT.lies.upper {B : Nat} {w w' : World} (hu : Upper B w w') {e : PT} (h : e.lies B w) : e.lies B w' := by
 induction e with
 | nil => exact False.elim h
 | mk d kid ih =>
   obtain ⟨h2, h4, h5, h6, h7, h8, h9, h10⟩ := h
   exact ⟨h2.upper hu, ET.lies.upper hu h4, h5.upper hu, h6.upper hu, h7, h8, h9.upper hu, fun i hi => ih i (h10 i hi)⟩
theorem PT.lies.base {B B' : Nat} {w : World} (hB : B' ≤ B) {e : PT} (h : e.lies B w) : e.lies B' w := by
 induction e with
 | nil => exact False.elim h
 | mk d kid ih =>
   obtain ⟨h2, h4, h5, h6, h7, h8, h9, h10⟩ := h
   exact ⟨h2.base hB, ET.lies.base hB h4, h5.base hB, h6.base hB, h7, h8, h9.base hB, fun i hi => ih i (h10 i hi)⟩
theorem PT.lies.below {B : Nat} {w w' : World} {e : PT} (h : e.lies B w) (hb : Bl w w') : e.lies B w' := PT.lies.upper (uB hb) h
theorem PT.came.below {w w' : World} (hb : Bl w w') {e : PT} (h : e.came w) : e.came w' := by
 induction e with
 | nil => exact False.elim h
 | mk d kid ih =>
   obtain ⟨h2, h4, h5, h6, h7, h8, h9⟩ := h
   exact ⟨h2.below hb, ET.came.below hb h4, h5.below hb, h6.below hb, h7, h8.upper (uB hb), fun i hi => ih i (h9 i hi)⟩
theorem PT.came.lies {w : World} {e : PT} (h : e.came w) (hs : e.small) : e.lies 0 w := by
 induction e with
 | nil => exact False.elim h
 | mk d kid ih =>
   obtain ⟨h2, h4, h5, h6, h7, h8, h9⟩ := h
   obtain ⟨s2, s3, s4, ⟨s5, s6⟩, s7, s8⟩ := hs
   exact ⟨PB.came.lies h2 s2, ET.came.lies h4 s3, h5.bs s4, h6.lies s6, s5, s7, h8, fun i hi => ih i (h9 i hi) (s8 i hi)⟩
end Go.Proofs.YthljoojcpbignaaGreatDoor
