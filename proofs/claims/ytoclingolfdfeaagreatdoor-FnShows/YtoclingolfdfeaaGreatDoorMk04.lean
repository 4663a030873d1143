/- Texts put together: TriC GraA StrC GrwA StsA StsK GraF -/
import Derived.Test.YtoclingolfdfeaaGreatDoorMk03
import Derived.Deep.RegionHeld3
import Derived.Deep.AppendLies
import Derived.Test.YtoclingolfdfeaaGreatDoorMk02
import Derived.Sort.Grow
import Derived.Lib.QuietBelow
import Derived.Deep.CutRange
import Derived.Shelf.SlSortCmp.KitK
import Derived.ChangeKeysEq
/- TriC -/
namespace Go.Proofs.YtoclingolfdfeaaGreatDoor
open Go.RowKit Go.Deep

/-- A triple that may be. -/
def tripleOk (t u v : Tm) (bt bu bv : List Int) : Bool := termOk t.k bt t.n t.s && termOk u.k bu u.n u.s && termOk v.k bv v.n v.s && decide (t.k ≤ 1) && (u.k == 0)

theorem isSubject_any (t : Tm) (bt : List Int) (w : World) (ft : t.fits) (hT : Bs w t.a t.len bt) :
    Calls Tryz.prog 77 #[.agg #[.int .i64 t.k, .slice t.a t.len t.cap, .int .i64 t.n, .int .i64 t.s]] w fun e w' => e = .returned (.bool (termOk t.k bt t.n t.s && decide (t.k ≤ 1))) ∧ Below w.heap.size w w' := by
  have O1 := fun w h => implTermOk_any t.k t.n t.s t.a t.len t.cap bt w h ft.1 ft.2.1 ft.2.2.1 ft.2.2.2
  clear ft
  cases e1 : termOk t.k bt t.n t.s
  · rw [e1] at O1
    clear e1
    go_enter Tryz.func77, Tryz.ntmps77
    go_wp2_with fail
    refine (O1 _ (hT.below (bl_a _))).mono ?_
    rintro e w1 ⟨rfl, hb1⟩
    go_wp2
    go_ret
    exact ⟨rfl, bl_trans (bl_a _) hb1⟩
  have hk : 0 ≤ t.k := by
    unfold termOk at e1
    split at e1
    · omega
    · split at e1
      · omega
      · split at e1
        · omega
        · split at e1
          · omega
          · cases e1
  rw [e1] at O1
  clear e1
  simp only [Bool.true_and]
  cases c0 : (t.k == 0)
  · have er : Hid (decide (t.k ≤ 1) = (t.k == 1)) := by
      show _ = _
      have : t.k ≠ 0 := by simpa using c0
      by_cases c1 : t.k = 1
      · simp [c1]
      · have : ¬ t.k ≤ 1 := by omega
        simp [c1, this]
    go_enter Tryz.func77, Tryz.ntmps77
    go_wp2_with fail
    refine (O1 _ (hT.below (bl_a _))).mono ?_
    rintro e w1 ⟨rfl, hb1⟩
    have hA := (At4.new w _ _ _ _ _).below hb1
    obtain ⟨x0, x1, x2, x3, x4⟩ := id hA
    go_wp2
    go_ret
    exact ⟨by rw [er.out]; rfl, bl_trans (bl_a _) hb1⟩
  · have er : Hid (decide (t.k ≤ 1) = true) := by
      show _ = _
      have : t.k = 0 := by simpa using c0
      simp [this]
    go_enter Tryz.func77, Tryz.ntmps77
    go_wp2_with fail
    refine (O1 _ (hT.below (bl_a _))).mono ?_
    rintro e w1 ⟨rfl, hb1⟩
    have hA := (At4.new w _ _ _ _ _).below hb1
    obtain ⟨x0, x1, x2, x3, x4⟩ := id hA
    go_wp2
    go_ret
    exact ⟨by rw [er.out]; rfl, bl_trans (bl_a _) hb1⟩

theorem isProperty_any (t : Tm) (bt : List Int) (w : World) (ft : t.fits) (hT : Bs w t.a t.len bt) :
    Calls Tryz.prog 78 #[.agg #[.int .i64 t.k, .slice t.a t.len t.cap, .int .i64 t.n, .int .i64 t.s]] w fun e w' => e = .returned (.bool (termOk t.k bt t.n t.s && (t.k == 0))) ∧ Below w.heap.size w w' := by
  have O1 := fun w h => implTermOk_any t.k t.n t.s t.a t.len t.cap bt w h ft.1 ft.2.1 ft.2.2.1 ft.2.2.2
  clear ft
  cases e1 : termOk t.k bt t.n t.s
  · rw [e1] at O1
    clear e1
    go_enter Tryz.func78, Tryz.ntmps78
    go_wp2_with fail
    refine (O1 _ (hT.below (bl_a _))).mono ?_
    rintro e w1 ⟨rfl, hb1⟩
    go_wp2
    go_ret
    exact ⟨rfl, bl_trans (bl_a _) hb1⟩
  rw [e1] at O1
  clear e1
  simp only [Bool.true_and]
  go_enter Tryz.func78, Tryz.ntmps78
  go_wp2_with fail
  refine (O1 _ (hT.below (bl_a _))).mono ?_
  rintro e w1 ⟨rfl, hb1⟩
  have hA := (At4.new w _ _ _ _ _).below hb1
  obtain ⟨x0, x1, x2, x3, x4⟩ := id hA
  go_wp2
  go_ret
  exact ⟨rfl, bl_trans (bl_a _) hb1⟩

end Go.Proofs.YtoclingolfdfeaaGreatDoor

/- GraA -/
namespace Go.Proofs.YtoclingolfdfeaaGreatDoor
open Go.RowKit Go.Deep

/-- Three terms in a row from place o on in block b. -/
def Row12 (w : World) (b o : Nat) (t u v : Tm) : Prop :=
  (w.cell? ⟨b, o, none⟩ = some (.int .i64 t.k) ∧ w.cell? ⟨b, o + 1, none⟩ = some (.slice t.a t.len t.cap) ∧ w.cell? ⟨b, o + 2, none⟩ = some (.int .i64 t.n) ∧ w.cell? ⟨b, o + 3, none⟩ = some (.int .i64 t.s)) ∧
    (w.cell? ⟨b, o + 4, none⟩ = some (.int .i64 u.k) ∧ w.cell? ⟨b, o + 5, none⟩ = some (.slice u.a u.len u.cap) ∧ w.cell? ⟨b, o + 6, none⟩ = some (.int .i64 u.n) ∧ w.cell? ⟨b, o + 7, none⟩ = some (.int .i64 u.s)) ∧
    (w.cell? ⟨b, o + 8, none⟩ = some (.int .i64 v.k) ∧ w.cell? ⟨b, o + 9, none⟩ = some (.slice v.a v.len v.cap) ∧ w.cell? ⟨b, o + 10, none⟩ = some (.int .i64 v.n) ∧ w.cell? ⟨b, o + 11, none⟩ = some (.int .i64 v.s))
/-- n triples behind an address. -/
def Rows (w : World) (a : Option Addr) (n : Nat) (T U V : Nat → Tm) : Prop :=
  n = 0 ∨ ∃ b off, a = some ⟨b, off, none⟩ ∧ b < w.heap.size ∧ ∀ i, i < n → Row12 w b (off + i * 12) (T i) (U i) (V i)
theorem Row12.of_block {w w' : World} {b o : Nat} {t u v : Tm} (h : Row12 w b o t u v) (hb : w'.heap[b]? = w.heap[b]?) : Row12 w' b o t u v := by
  have e : ∀ i, w'.cell? ⟨b, i, none⟩ = w.cell? ⟨b, i, none⟩ := fun i => World.cell?_of_block (w := w) (a := ⟨b, i, none⟩) hb
  unfold Row12
  simp only [e]
  exact h
theorem Rows.below {w w' : World} {a : Option Addr} {n : Nat} {T U V : Nat → Tm} (h : Rows w a n T U V) (hb : Below w.heap.size w w') : Rows w' a n T U V := by
  rcases h with h | ⟨b, off, ha, hlt, hc⟩
  · exact .inl h
  · exact .inr ⟨b, off, ha, Nat.lt_of_lt_of_le hlt hb.size, fun i hi => (hc i hi).of_block (hb.block b hlt)⟩
/-- Their texts. -/
def Texts (w : World) (n : Nat) (T : Nat → Tm) (B : Nat → List Int) : Prop := ∀ i, i < n → Bs w (T i).a (T i).len (B i)
theorem Texts.below {w w' : World} {n : Nat} {T : Nat → Tm} {B : Nat → List Int} (h : Texts w n T B) (hb : Below w.heap.size w w') : Texts w' n T B := fun i hi => (h i hi).below hb

end Go.Proofs.YtoclingolfdfeaaGreatDoor

/- StrC -/
namespace Go.Proofs.YtoclingolfdfeaaGreatDoor
open Go.RowKit Go.Deep
set_option maxRecDepth 100000

/-- A term's parts and what its text holds. -/
structure TB where
  t : Tm
  b : List Int
def TB.td (x : TB) : TD := ⟨x.t.k, x.b, x.t.n, x.t.s⟩
def enc4 (t : Tm) : List Value := [.int .i64 t.k, .slice t.a t.len t.cap, .int .i64 t.n, .int .i64 t.s]
/-- The cells of a row of terms. -/
def flat4 (l : List TB) : List Value := l.flatMap fun x => enc4 x.t
theorem flat4_len (l : List TB) : (flat4 l).length = l.length * 4 := by
  induction l with
  | nil => rfl
  | cons x l ih => simp only [flat4, List.flatMap_cons, List.length_append] at *; rw [ih]; simp [enc4]; omega
theorem flat4_get (l : List TB) (i c : Nat) (hi : i < l.length) (hc : c < 4) : (flat4 l)[i * 4 + c]? = (enc4 l[i].t)[c]? := by
  induction l generalizing i with
  | nil => cases hi
  | cons x l ih =>
    have e : flat4 (x :: l) = enc4 x.t ++ flat4 l := rfl
    rw [e]
    cases i with
    | zero => rw [List.getElem?_append_left (by simp [enc4]; omega)]; simp
    | succ i =>
      rw [List.getElem?_append_right (by simp [enc4]; omega)]
      have : (i + 1) * 4 + c - (enc4 x.t).length = i * 4 + c := by simp [enc4]; omega
      rw [this, ih i (by simpa using hi)]
      rfl
theorem flat4_take (l : List TB) (i : Nat) : flat4 (l.take i) = (flat4 l).take (i * 4) := by
  induction l generalizing i with
  | nil => simp [flat4]
  | cons x l ih =>
    cases i with
    | zero => simp [flat4]
    | succ i =>
      have e : flat4 (x :: l) = enc4 x.t ++ flat4 l := rfl
      have e2 : flat4 (x :: l.take i) = enc4 x.t ++ flat4 (l.take i) := rfl
      rw [List.take_succ_cons, e, e2, ih, show (i + 1) * 4 = (enc4 x.t).length + i * 4 by simp [enc4]; omega, List.take_length_add_append]
theorem flat4_drop (l : List TB) (i : Nat) : flat4 (l.drop i) = (flat4 l).drop (i * 4) := by
  induction l generalizing i with
  | nil => simp [flat4]
  | cons x l ih =>
    cases i with
    | zero => simp
    | succ i =>
      have e : flat4 (x :: l) = enc4 x.t ++ flat4 l := rfl
      rw [List.drop_succ_cons, e, ih, show (i + 1) * 4 = (enc4 x.t).length + i * 4 by simp [enc4]; omega, List.drop_length_add_append]

/-- Terms behind an address. -/
def TRow (w : World) (a : Option Addr) (l : List TB) : Prop := l = [] ∨ ∃ b off, a = some ⟨b, off, none⟩ ∧ b < w.heap.size ∧ ∀ j u, (flat4 l)[j]? = some u → w.cell? ⟨b, off + j, none⟩ = some u
theorem TRow.below {w w' : World} {a : Option Addr} {l : List TB} (h : TRow w a l) (hb : Below w.heap.size w w') : TRow w' a l := by
  rcases h with h | ⟨b, off, ha, hl, hc⟩
  · exact .inl h
  · exact .inr ⟨b, off, ha, Nat.lt_of_lt_of_le hl hb.size, fun j u hu => (hb.cell (p := ⟨b, off + j, none⟩) hl).trans (hc j u hu)⟩
theorem TRow.at {w : World} {b off : Nat} {l : List TB} (hc : ∀ j u, (flat4 l)[j]? = some u → w.cell? ⟨b, off + j, none⟩ = some u) (i : Nat) (hi : i < l.length) :
    w.cell? ⟨b, off + i * 4, none⟩ = some (.int .i64 l[i].t.k) ∧ w.cell? ⟨b, off + i * 4 + 1, none⟩ = some (.slice l[i].t.a l[i].t.len l[i].t.cap) ∧ w.cell? ⟨b, off + i * 4 + 2, none⟩ = some (.int .i64 l[i].t.n) ∧ w.cell? ⟨b, off + i * 4 + 3, none⟩ = some (.int .i64 l[i].t.s) := by
  refine ⟨hc (i * 4 + 0) _ ?_, ?_, ?_, ?_⟩
  · rw [flat4_get l i 0 hi (by omega)]; rfl
  · rw [Nat.add_assoc]; exact hc _ _ (by rw [flat4_get l i 1 hi (by omega)]; rfl)
  · rw [Nat.add_assoc]; exact hc _ _ (by rw [flat4_get l i 2 hi (by omega)]; rfl)
  · rw [Nat.add_assoc]; exact hc _ _ (by rw [flat4_get l i 3 hi (by omega)]; rfl)
/-- Their texts. -/
def TTxt (w : World) (l : List TB) : Prop := ∀ x ∈ l, Bs w x.t.a x.t.len x.b
theorem TTxt.below {w w' : World} {l : List TB} (h : TTxt w l) (hb : Below w.heap.size w w') : TTxt w' l := fun x hx => (h x hx).below hb

/-- A row of terms of the call's own, or none as yet. -/
def OwnTR (w : World) (B : Nat) (v : Value) (l : List TB) : Prop := w.ownsRow B 24 4 v l.length (flat4 l) ∧ ∀ g, v.ownBlock = some g → B ≤ g ∧ g < w.heap.size
theorem OwnTR.nil (w : World) (B : Nat) : OwnTR w B (.slice none 0 0) [] := ⟨World.ownsRow_nil _ _ _ _, fun g h => by cases h⟩
theorem OwnTR.below {w w' : World} {B : Nat} {v : Value} {l : List TB} (h : OwnTR w B v l) (hb : Below w.heap.size w w') : OwnTR w' B v l := by
  obtain ⟨⟨h1, h2⟩, hl⟩ := h
  refine ⟨⟨h1, ?_⟩, fun g hg => ⟨(hl g hg).1, Nat.lt_of_lt_of_le (hl g hg).2 hb.size⟩⟩
  rcases h2 with h2 | ⟨g', cap', cur, hv, hB, hh, r⟩
  · exact .inl h2
  · refine .inr ⟨g', cap', cur, hv, hB, ?_, r⟩
    have := (hl g' (by rw [hv]; rfl)).2
    rw [hb.block g' this]
    exact hh
theorem OwnTR.form {w : World} {B : Nat} {v : Value} {l : List TB} (h : OwnTR w B v l) : ∃ a cap, v = .slice a l.length cap ∧ TRow w a l ∧ l.length ≤ cap ∧ (a = none → l = [] ∧ cap = 0) ∧ ∀ x, a = some x → ∃ g, x = ⟨g, 0, none⟩ ∧ B ≤ g ∧ g < w.heap.size := by
  rcases h.1.2 with ⟨rfl, h0⟩ | ⟨g, cap, cur, rfl, hB, hh, hle, _, hsz, htk⟩
  · have := List.eq_nil_of_length_eq_zero h0
    subst this
    exact ⟨none, 0, rfl, .inl rfl, by simp, fun _ => ⟨rfl, rfl⟩, fun x hx => by cases hx⟩
  · have hlt := (h.2 g rfl).2
    refine ⟨some ⟨g, 0, none⟩, cap, rfl, .inr ⟨g, 0, rfl, hlt, fun j u hu => ?_⟩, hle, fun hx => (by cases hx), fun x hx => by cases hx; exact ⟨g, rfl, hB, hlt⟩⟩
    rw [Nat.zero_add]
    have hj : j < l.length * 4 := by
      apply Classical.byContradiction
      intro hn
      rw [List.getElem?_eq_none (by rw [flat4_len]; omega)] at hu
      cases hu
    rw [← htk, List.getElem?_take, if_pos hj] at hu
    simp only [World.cell?, hh]
    simpa using hu

theorem Tryz.info24 : (Tryz.prog.info? 24).map (fun i => (i.zero, i.size, i.bytes)) = some (some (.agg #[.int .i64 0, .slice none 0 0, .int .i64 0, .int .i64 0]), 4, 48) := by kernel_rfl

/-- The cells of some of them. -/
theorem TRow.news {w : World} {b off : Nat} {l : List TB} (hc : ∀ j u, (flat4 l)[j]? = some u → w.cell? ⟨b, off + j, none⟩ = some u) (i m : Nat) :
    ∀ j u, (flat4 ((l.drop i).take m))[j]? = some u → w.cell? ((⟨b, off + i * 4, none⟩ : Addr).add j) = some u := by
  intro j u hu
  have ea : (⟨b, off + i * 4, none⟩ : Addr).add j = ⟨b, off + (i * 4 + j), none⟩ := by
    by_cases h0 : j = 0 <;> simp [Addr.add, h0, Nat.add_assoc]
  rw [ea]
  refine hc _ _ ?_
  rw [flat4_take, flat4_drop, List.getElem?_take] at hu
  split at hu
  · rw [List.getElem?_drop] at hu; exact hu
  · cases hu
end Go.Proofs.YtoclingolfdfeaaGreatDoor

/- GrwA -/
namespace Go.Proofs.YtoclingolfdfeaaGreatDoor
open Go.RowKit Go.Deep
set_option maxRecDepth 100000

/-- Nothing that was there is turned; blocks may lie behind it; draws may have gone on. -/
structure Gr (w w' : World) : Prop where
  bl : Below w.heap.size w w'
  dr : w.drawn ≤ w'.drawn
theorem Gr.refl (w : World) : Gr w w := ⟨Below.refl _ _, Nat.le_refl _⟩
theorem gr_alloc {w w' : World} (h : Gr w w') (o : Obj) : Gr w (w'.alloc o) := ⟨bl_alloc h.bl o, by simpa [World.alloc, -World.alloc_eq] using h.dr⟩
theorem gr_a {w : World} (o : Obj) : Gr w (w.alloc o) := gr_alloc (Gr.refl _) o
theorem gr_trans {w w' w'' : World} (h : Gr w w') (k : Gr w' w'') : Gr w w'' := ⟨bl_trans h.bl k.bl, Nat.le_trans h.dr k.dr⟩
theorem gr_drew {w w' : World} (h : Gr w w') : Gr w w'.drew := ⟨Below.drew h.bl, by have := h.dr; simp [World.drew, -World.drew_eq]; omega⟩
theorem gr_drewN {w w' : World} (h : Gr w w') (q : Nat) : Gr w (w'.drewN q) := ⟨below_drewN h.bl q, by have := h.dr; simp [World.drewN]; omega⟩
theorem Bs.gr {w w' : World} {a : Option Addr} {len : Nat} {bs : List Int} (h : Bs w a len bs) (hb : Gr w w') : Bs w' a len bs := h.below hb.bl
theorem At4.gr {w w' : World} {b : Nat} {v0 v1 v2 v3 : Value} (h : At4 w b v0 v1 v2 v3) (hb : Gr w w') : At4 w' b v0 v1 v2 v3 := h.below hb.bl
theorem gcell_keep {w w' : World} (hb : Gr w w') {p : Addr} {v : Value} (h : w.cell? p = some v) (hp : p.block < w.heap.size) : w'.cell? p = some v := cell_keep hb.bl h hp
theorem Gr.grown {w w' : World} (h : Gr w w') : ∃ q os, w' = Go.Sort.grow (w.drewN q) os := by
  obtain ⟨⟨d, os⟩, e⟩ := regrown_of_below h.bl
  have hd : w'.drawn = d := by rw [e]; rfl
  refine ⟨d - w.drawn, os, ?_⟩
  have h2 := h.dr
  rw [e]
  unfold redrawn World.drewN
  rw [show w.drawn + (d - w.drawn) = d by omega]
set_option maxRecDepth 10000 in
theorem implTermOk_gr (k n s : Int) (a : Option Addr) (len cap : Nat) (bs : List Int) (w : World) (hB : Bs w a len bs) (h1 : -9223372036854775808 ≤ n) (h2 : n ≤ 9223372036854775807) (h3 : -9223372036854775808 ≤ s) (h4 : s ≤ 9223372036854775807) :
    Calls Tryz.prog 9 #[.agg #[.int .i64 k, .slice a len cap, .int .i64 n, .int .i64 s]] w fun e w' => e = .returned (.bool (termOk k bs n s)) ∧ Gr w w' := by
  have hB1 : ∀ o1, Bs (w.alloc o1) a len bs := fun o1 => hB.gr (gr_alloc (Gr.refl _) _)
  have HL : Hid (bs.length = len) := hB.1
  have hlm := hB.2.1
  clear hB
  by_cases k0 : k = 0
  · subst k0
    generalize hg : termOk 0 bs n s = r
    have HG : Hid (termOk 0 bs n s = r) := hg
    clear hg
    go_enter Tryz.func9, Tryz.ntmps9
    go_wp2_with (go_at_call 34; refine (isName_any a len cap bs _ (hB1 _)).mono ?_; rintro e w1 ⟨rfl, rfl⟩)
    all_goals go_ret
    all_goals (refine ⟨congrArg (fun b => Ending.returned (Value.bool b)) ?_, gr_alloc (Gr.refl _) _⟩; rw [← HG.out]; clear HG; go_light; simp_all [termOk])
  by_cases k1 : k = 1
  · subst k1
    generalize hg : termOk 1 bs n s = r
    have HG : Hid (termOk 1 bs n s = r) := hg
    clear hg
    go_enter Tryz.func9, Tryz.ntmps9
    go_wp2_with (go_at_call 35; refine (within_any _ _ _ _).mono ?_; rintro e w1 ⟨rfl, rfl⟩)
    all_goals go_ret
    all_goals (refine ⟨congrArg (fun b => Ending.returned (Value.bool b)) ?_, gr_alloc (Gr.refl _) _⟩; have hg := HG.out; have hl := HL.out; rw [← hg, Bool.eq_iff_iff]; go_light; simp [termOk, -List.length_eq_zero_iff]; try omega)
  by_cases k2 : k = 2
  · subst k2
    generalize hg : termOk 2 bs n s = r
    have HG : Hid (termOk 2 bs n s = r) := hg
    clear hg
    go_enter Tryz.func9, Tryz.ntmps9
    go_wp2_with (go_at_call 36; refine (isText_any a len cap bs _ (hB1 _)).mono ?_; rintro e w1 ⟨rfl, rfl⟩)
    all_goals go_ret
    all_goals (refine ⟨congrArg (fun b => Ending.returned (Value.bool b)) ?_, gr_alloc (Gr.refl _) _⟩; rw [← HG.out]; clear HG; go_light; simp_all [termOk])
  by_cases k3 : k = 3
  · subst k3
    generalize hg : termOk 3 bs n s = r
    have HG : Hid (termOk 3 bs n s = r) := hg
    clear hg
    by_cases hl0 : len = 0
    · subst hl0
      go_enter Tryz.func9, Tryz.ntmps9
      go_wp2_with (first | (go_at_call 31; refine (decimal_any _ _ _ _ _ _ _).mono ?_; rintro e w1 ⟨rfl, o1, o2, rfl⟩) | (go_at_call 37; refine (decOk_any _ _ _ h1 h2 h3 h4).mono ?_; rintro e w2 ⟨rfl, o3, rfl⟩))
      go_ret
      refine ⟨congrArg (fun b => Ending.returned (Value.bool b)) ?_, ?_⟩
      · have hg := HG.out
        have hl := HL.out
        rw [← hg]
        simp [termOk, hl]
      · repeat (first | with_reducible exact Gr.refl _ | with_reducible apply gr_alloc | with_reducible apply gr_drew)
    · have hl0' : ((len : Int) == 0) = false := by simp; omega
      go_enter Tryz.func9, Tryz.ntmps9
      go_wp2
      go_ret
      refine ⟨congrArg (fun b => Ending.returned (Value.bool b)) ?_, ?_⟩
      · have hg := HG.out
        have hl := HL.out
        have hz : (bs.length == 0) = false := by simp only [beq_eq_false_iff_ne, ne_eq]; omega
        rw [← hg]
        simp [termOk, hz, -List.length_eq_zero_iff, -beq_eq_false_iff_ne]
      · repeat (first | with_reducible exact Gr.refl _ | with_reducible apply gr_alloc | with_reducible apply gr_drew)
  · have e : termOk k bs n s = false := by simp [termOk, k0, k1, k2, k3]
    rw [e]
    have g0 : (k == 0) = false := by simp; omega
    have g1 : (k == 1) = false := by simp; omega
    have g2 : (k == 2) = false := by simp; omega
    have g3 : (k == 3) = false := by simp; omega
    clear k0 k1 k2 k3 e
    go_enter Tryz.func9, Tryz.ntmps9
    go_wp2
    go_ret
    exact ⟨rfl, gr_alloc (Gr.refl _) _⟩

theorem decCompare_gr (n n' : Int) (s s' : Nat) (w : World) (hs : s ≤ 6) (h1 : -9223372036854775808 ≤ n) (h2 : n ≤ 9223372036854775807) (hs' : s' ≤ 6) (h1' : -9223372036854775808 ≤ n') (h2' : n' ≤ 9223372036854775807) :
    Calls Tryz.prog 155 #[.agg #[.int .i64 n, .int .i64 s], .agg #[.int .i64 n', .int .i64 s']] w fun e w' =>
      e = .returned (.int .i64 (cmpN n s n' s')) ∧ Gr w w' := by
  unfold cmpN
  go_enter Tryz.func155, Tryz.ntmps155
  go_wp2_with fail
  refine (parts_any n s _ hs h1 h2).mono ?_
  rintro e w1 ⟨rfl, q1, o1, rfl⟩
  go_wp2_with fail
  refine (parts_any n' s' _ hs' h1' h2').mono ?_
  rintro e w2 ⟨rfl, q2, o2, rfl⟩
  go_wp2_with fail
  refine (cmpInt_any _ _ _).mono ?_
  rintro e w3 ⟨rfl, rfl⟩
  go_wp2_with fail
  refine (cmpInt_any _ _ _).mono ?_
  rintro e w4 ⟨rfl, rfl⟩
  go_wp2_with fail
  refine (cmpOr_any _ _ _ _ (by simp [go_sem]; rfl) (by simp [go_sem]; rfl)).mono ?_
  rintro e w5 ⟨rfl, rfl⟩
  go_wp2
  go_ret
  refine ⟨rfl, ?_⟩
  repeat (first | with_reducible exact Gr.refl _ | with_reducible apply gr_alloc | with_reducible apply gr_drew | with_reducible apply gr_drewN)


theorem compareKind_gr (k n s k' n' s' : Int) (a a' : Option Addr) (len cap len' cap' : Nat) (w : World) :
    Calls Tryz.prog 114 #[.agg #[.int .i64 k, .slice a len cap, .int .i64 n, .int .i64 s], .agg #[.int .i64 k', .slice a' len' cap', .int .i64 n', .int .i64 s']] w fun e w' =>
      e = .returned (.int .i64 (cmpI k k')) ∧ Gr w w' := by
  go_enter Tryz.func114, Tryz.ntmps114
  go_wp2_with fail
  refine (cmpInt_any _ _ _).mono ?_
  rintro e w1 ⟨rfl, rfl⟩
  go_wp2
  go_ret
  refine ⟨rfl, ?_⟩
  repeat (first | with_reducible exact Gr.refl _ | with_reducible apply gr_alloc | with_reducible apply gr_drew | with_reducible apply gr_drewN)


theorem compareText_gr (k n s k' n' s' : Int) (a a' : Option Addr) (len cap len' cap' : Nat) (bs bs' : List Int) (w : World) (hB : Bs w a len bs) (hB' : Bs w a' len' bs') :
    Calls Tryz.prog 115 #[.agg #[.int .i64 k, .slice a len cap, .int .i64 n, .int .i64 s], .agg #[.int .i64 k', .slice a' len' cap', .int .i64 n', .int .i64 s']] w fun e w' =>
      e = .returned (.int .i64 (cmpB bs bs')) ∧ Gr w w' := by
  have h1 : ∀ o1 o2, Bs ((w.alloc o1).alloc o2) a len bs := fun o1 o2 => hB.gr (gr_alloc (gr_a _) _)
  have h2 : ∀ o1 o2, Bs ((w.alloc o1).alloc o2) a' len' bs' := fun o1 o2 => hB'.gr (gr_alloc (gr_a _) _)
  clear hB hB'
  go_enter Tryz.func115, Tryz.ntmps115
  go_wp2_with fail
  refine (bytesCompare_any a a' len cap len' cap' bs bs' _ (h1 _ _) (h2 _ _)).mono ?_
  rintro e w1 ⟨rfl, rfl⟩
  go_wp2
  go_ret
  exact ⟨rfl, gr_alloc (gr_a _) _⟩

set_option maxHeartbeats 1000000 in
theorem compareNumber_gr (k n k' n' : Int) (s s' : Nat) (a a' : Option Addr) (len cap len' cap' : Nat) (w : World) (hs : s ≤ 6) (h1 : -9223372036854775808 ≤ n) (h2 : n ≤ 9223372036854775807) (hs' : s' ≤ 6) (h1' : -9223372036854775808 ≤ n') (h2' : n' ≤ 9223372036854775807) :
    Calls Tryz.prog 116 #[.agg #[.int .i64 k, .slice a len cap, .int .i64 n, .int .i64 s], .agg #[.int .i64 k', .slice a' len' cap', .int .i64 n', .int .i64 s']] w fun e w' =>
      e = .returned (.int .i64 (cmpN n s n' s')) ∧ Gr w w' := by
  go_enter Tryz.func116, Tryz.ntmps116
  go_wp2_with fail
  go_region_with (first
    | (go_at_call 31; refine (decimal_any _ _ _ _ _ _ _).mono ?_; rintro e w1 ⟨rfl, o1, o2, rfl⟩)
    | (go_at_call 155; refine (decCompare_gr n n' s s' _ hs h1 h2 hs' h1' h2').mono ?_; rintro e w2 ⟨rfl, hb2⟩))
  all_goals (go_wp2; go_ret; refine ⟨rfl, gr_trans ?_ hb2⟩; repeat (first | with_reducible exact Gr.refl _ | with_reducible apply gr_alloc | with_reducible apply gr_drew | with_reducible apply gr_drewN))

set_option maxHeartbeats 1000000 in
theorem firstUnlike_gr (k n k' n' : Int) (s s' : Nat) (a a' : Option Addr) (len cap len' cap' : Nat) (bs bs' : List Int) (b : Nat) (w : World)
    (hB : Bs w a len bs) (hB' : Bs w a' len' bs') (hs : s ≤ 6) (h1 : -9223372036854775808 ≤ n) (h2 : n ≤ 9223372036854775807) (hs' : s' ≤ 6) (h1' : -9223372036854775808 ≤ n') (h2' : n' ≤ 9223372036854775807)
    (hb : b < w.heap.size) (f0 : w.cell? ⟨b, 0, none⟩ = some (.func (.func 114) #[] #[])) (f1 : w.cell? ⟨b, 1, none⟩ = some (.func (.func 115) #[] #[])) (f2 : w.cell? ⟨b, 2, none⟩ = some (.func (.func 116) #[] #[])) :
    Calls Tryz.prog 113 #[.agg #[.int .i64 k, .slice a len cap, .int .i64 n, .int .i64 s], .agg #[.int .i64 k', .slice a' len' cap', .int .i64 n', .int .i64 s'], .slice (some ⟨b, 0, none⟩) 3 3] w fun e w' =>
      e = .returned (.int .i64 (cmp3 (cmpI k k') (cmpB bs bs') (cmpN n s n' s'))) ∧ Gr w w' := by
  have hB2 : ∀ o1 o2, Bs ((w.alloc o1).alloc o2) a len bs := fun o1 o2 => hB.gr (gr_alloc (gr_a _) _)
  have hB2' : ∀ o1 o2, Bs ((w.alloc o1).alloc o2) a' len' bs' := fun o1 o2 => hB'.gr (gr_alloc (gr_a _) _)
  clear hB hB'
  have kind := fun w => compareKind_gr k n s k' n' s' a a' len cap len' cap' w
  have number := fun w => compareNumber_gr k n k' n' s s' a a' len cap len' cap' w hs h1 h2 hs' h1' h2'
  have text := fun w hB hB' => compareText_gr k n s k' n' s' a a' len cap len' cap' bs bs' w hB hB'
  generalize cmpI k k' = x at kind ⊢
  generalize cmpB bs bs' = y at text ⊢
  generalize cmpN n s n' s' = z at number ⊢
  go_enter Tryz.func113, Tryz.ntmps113
  go_wp2_with fail
  refine wp_loop_rounds 4 ?_
  rw [rounds_succ]
  go_wp2_with fail
  refine (kind _).mono ?_
  rintro e w1 ⟨rfl, hb1⟩
  have hw1 := gr_trans (gr_a _) (gr_trans (gr_a _) hb1)
  have hA1 := (At4.new w _ _ _ _ _).gr (gr_trans (gr_a _) hb1)
  have hX1 := (At4.at (w.alloc _) (w.heap.size + 1) _ _ _ _ _ (by simp)).gr hb1
  have hB1 := (hB2 _ _).gr hb1
  have hB1' := (hB2' _ _).gr hb1
  have g1 := gcell_keep hw1 f1 hb
  have g2 := gcell_keep hw1 f2 hb
  have hbl := Nat.lt_of_lt_of_le hb hw1.bl.size
  clear hB2 hB2' hb1 f0 f1 f2 kind
  obtain ⟨a0, a1, a2, a3, a4⟩ := id hA1
  obtain ⟨x0, x1, x2, x3, x4⟩ := id hX1
  by_cases hx : x = 0
  · subst hx
    go_wp2_with fail
    rw [rounds_succ]
    go_wp2_with fail
    refine (text _ hB1 hB1').mono ?_
    rintro e w2 ⟨rfl, hb2⟩
    have hw2 := gr_trans hw1 hb2
    have hA2 := hA1.gr hb2
    have hX2 := hX1.gr hb2
    have g3 := gcell_keep hb2 g2 hbl
    clear hB1 hB1' g1 g2 hw1 hA1 hX1 hbl hb2 text a0 a1 a2 a3 a4 x0 x1 x2 x3 x4
    obtain ⟨a0, a1, a2, a3, a4⟩ := id hA2
    obtain ⟨x0, x1, x2, x3, x4⟩ := id hX2
    by_cases hy : y = 0
    · subst hy
      go_wp2_with fail
      rw [rounds_succ]
      go_wp2_with fail
      refine (number _).mono ?_
      rintro e w3 ⟨rfl, hb3⟩
      have hw3 := gr_trans hw2 hb3
      clear hw2 hA2 hX2 g3 number a0 a1 a2 a3 a4 x0 x1 x2 x3 x4
      by_cases hz : z = 0
      · subst hz
        go_wp2_with fail
        rw [rounds_succ]
        go_wp2
        go_ret
        exact ⟨rfl, hw3⟩
      · have hz' : (z != 0) = true := by simp; omega
        clear hz
        go_wp2
        go_ret
        exact ⟨rfl, hw3⟩
    · have hy' : (y != 0) = true := by simp; omega
      have ec : Hid (cmp3 0 y z = y) := by show _ = _; simp [cmp3, orI, hy]
      clear hy
      go_wp2
      go_ret
      exact ⟨by rw [ec.out]; rfl, hw2⟩
  · have hx' : (x != 0) = true := by simp; omega
    have ec : Hid (cmp3 x y z = x) := by show _ = _; simp [cmp3, orI, hx]
    clear hx text
    go_wp2
    go_ret
    exact ⟨by rw [ec.out]; rfl, hw1⟩


set_option maxHeartbeats 1000000 in
theorem implCompare_gr (k n s k' n' s' : Int) (a a' : Option Addr) (len cap len' cap' : Nat) (bs bs' : List Int) (w : World)
    (hB : Bs w a len bs) (hB' : Bs w a' len' bs') (h1 : -9223372036854775808 ≤ n) (h2 : n ≤ 9223372036854775807) (h3 : -9223372036854775808 ≤ s) (h4 : s ≤ 9223372036854775807) (h1' : -9223372036854775808 ≤ n') (h2' : n' ≤ 9223372036854775807) (h3' : -9223372036854775808 ≤ s') (h4' : s' ≤ 9223372036854775807) :
    Calls Tryz.prog 74 #[.agg #[.int .i64 k, .slice a len cap, .int .i64 n, .int .i64 s], .agg #[.int .i64 k', .slice a' len' cap', .int .i64 n', .int .i64 s']] w fun e w' =>
      e = .returned (.int .i64 (cmpT (termOk k bs n s) (termOk k' bs' n' s') (cmp3 (cmpI k k') (cmpB bs bs') (cmpN n s.toNat n' s'.toNat)))) ∧ Gr w w' := by
  have ok1 := fun w hB => implTermOk_gr k n s a len cap bs w hB h1 h2 h3 h4
  have ok2 := fun w hB => implTermOk_gr k' n' s' a' len' cap' bs' w hB h1' h2' h3' h4'
  go_enter Tryz.func74, Tryz.ntmps74
  have hB2 : ∀ o1 o2, Bs ((w.alloc o1).alloc o2).drew a len bs := fun o1 o2 => hB.gr (gr_drew (gr_alloc (gr_a _) _))
  have hB2' : ∀ o1 o2, Bs ((w.alloc o1).alloc o2).drew a' len' bs' := fun o1 o2 => hB'.gr (gr_drew (gr_alloc (gr_a _) _))
  have tok1 : True := trivial
  clear hB hB'
  go_wp2_with fail
  go_region_held3 (fun w' => w'.cell? ⟨w.heap.size, 0, none⟩ = some (.int .i64 k) ∧ w'.cell? ⟨w.heap.size, 1, none⟩ = some (.slice a len cap) ∧ w'.cell? ⟨w.heap.size, 2, none⟩ = some (.int .i64 n) ∧ w'.cell? ⟨w.heap.size, 3, none⟩ = some (.int .i64 s) ∧ w'.cell? ⟨w.heap.size + 1, 0, none⟩ = some (.int .i64 k') ∧ w'.cell? ⟨w.heap.size + 1, 1, none⟩ = some (.slice a' len' cap') ∧ w'.cell? ⟨w.heap.size + 1, 2, none⟩ = some (.int .i64 n') ∧ w'.cell? ⟨w.heap.size + 1, 3, none⟩ = some (.int .i64 s')) (simp [*, go_sem])
    (first
      | (go_at_call 9; have _t := tok1; refine (ok1 _ (hB2 _ _)).mono ?_; rintro e w1 ⟨rfl, hb1⟩; clear tok1; have hw1 := gr_trans (gr_drew (gr_alloc (gr_a _) _)) hb1; have hA1 := (At4.new w (.int .i64 k) (.slice a len cap) (.int .i64 n) (.int .i64 s) 24).gr (gr_trans (gr_drew (gr_a _)) hb1); have hX1 := (At4.at (w.alloc (.cells #[.int .i64 k, .slice a len cap, .int .i64 n, .int .i64 s] 24)) (w.heap.size + 1) (.int .i64 k') (.slice a' len' cap') (.int .i64 n') (.int .i64 s') 24 (by simp)).gr (gr_trans (gr_drew (Gr.refl _)) hb1); have hB1 := (hB2 _ _).gr hb1; have hB1' := (hB2' _ _).gr hb1; clear hb1; obtain ⟨a0, a1, a2, a3, a4⟩ := id hA1; obtain ⟨x0, x1, x2, x3, x4⟩ := id hX1)
      | (go_at_call 9; refine (ok2 _ hB1').mono ?_; rintro e w2 ⟨rfl, hb2⟩; have hw2 := gr_trans hw1 hb2; have hA2 := hA1.gr hb2; have hX2 := hX1.gr hb2; have hB3 := hB1.gr hb2; have hB3' := hB1'.gr hb2; clear hb2 hw1 hA1 hX1 hB1 hB1' a0 a1 a2 a3 a4 x0 x1 x2 x3 x4; obtain ⟨a0, a1, a2, a3, a4⟩ := id hA2; obtain ⟨x0, x1, x2, x3, x4⟩ := id hX2))
  by_cases e1 : termOk k bs n s = true
  · by_cases e2 : termOk k' bs' n' s' = true
    · obtain ⟨b1, b2⟩ := termOk_scale e1
      obtain ⟨b1', b2'⟩ := termOk_scale e2
      obtain ⟨t, rfl⟩ : ∃ t : Nat, s = t := ⟨s.toNat, by omega⟩
      obtain ⟨t', rfl⟩ : ∃ t : Nat, s' = t := ⟨s'.toNat, by omega⟩
      clear ok1 ok2 hB2 hB2'
      go_wp2_with fail
      refine (firstUnlike_gr k n k' n' t t' a a' len cap len' cap' bs bs' w2.heap.size _ (hB3.gr (gr_a _)) (hB3'.gr (gr_a _)) (by omega) h1 h2 (by omega) h1' h2' (by simp) (by simp [go_sem]) (by simp [go_sem]) (by simp [go_sem])).mono ?_
      rintro e w3 ⟨rfl, hb3⟩
      have hw3 := gr_trans hw2 (gr_trans (gr_a _) hb3)
      have ec : Hid (cmpT (termOk k bs n t) (termOk k' bs' n' t') (cmp3 (cmpI k k') (cmpB bs bs') (cmpN n (t : Int).toNat n' (t' : Int).toNat)) = cmp3 (cmpI k k') (cmpB bs bs') (cmpN n t n' t')) := by
        show _ = _
        simp [cmpT, e1, e2]
      clear hb3
      go_wp2
      go_ret
      exact ⟨by rw [ec.out]; rfl, hw3⟩
    · have e2' : termOk k' bs' n' s' = false := by simpa using e2
      have ec : Hid (∀ c, cmpT (termOk k bs n s) (termOk k' bs' n' s') c = 1) := by intro c; simp [cmpT, e1, e2']
      clear ok1 ok2 hB2 hB2' e2
      go_wp2
      go_ret
      exact ⟨by rw [ec.out]; rfl, hw2⟩
  · have e1' : termOk k bs n s = false := by simpa using e1
    clear e1
    by_cases e2 : termOk k' bs' n' s' = true
    · have ec : Hid (∀ c, cmpT (termOk k bs n s) (termOk k' bs' n' s') c = -1) := by intro c; simp [cmpT, e1', e2]
      clear ok1 ok2 hB2 hB2'
      go_wp2
      go_ret
      exact ⟨by rw [ec.out]; rfl, hw2⟩
    · have e2' : termOk k' bs' n' s' = false := by simpa using e2
      have ec : Hid (∀ c, cmpT (termOk k bs n s) (termOk k' bs' n' s') c = 0) := by intro c; simp [cmpT, e1', e2']
      clear ok1 ok2 hB2 hB2' e2
      go_wp2
      go_ret
      exact ⟨by rw [ec.out]; rfl, hw2⟩
end Go.Proofs.YtoclingolfdfeaaGreatDoor

/- StsA -/
namespace Go.Proofs.YtoclingolfdfeaaGreatDoor
open Go.RowKit Go.Deep Go.Sort Go.Lib
set_option maxRecDepth 100000

/-- A row's cells. -/
def encR (x : Int × Int × Int) : List Value := [.int .i64 x.1, .int .i64 x.2.1, .int .i64 x.2.2]
theorem encR_len (x : Int × Int × Int) : (encR x).length = 3 := rfl
end Go.Proofs.YtoclingolfdfeaaGreatDoor

/- StsK -/
namespace Go.Proofs.YtoclingolfdfeaaGreatDoor
open Go.RowKit Go.Deep Go.Sort Go.Lib
set_option maxRecDepth 100000

theorem flatMap_len {α : Type} (enc : α → List Value) (k : Nat) (hk : ∀ x, (enc x).length = k) (l : List α) : (l.flatMap enc).length = l.length * k := by
  induction l with
  | nil => simp
  | cons x l ih => rw [List.flatMap_cons, List.length_append, ih, hk, List.length_cons, Nat.add_mul, Nat.one_mul, Nat.add_comm]
theorem flatMap_get {α : Type} (enc : α → List Value) (k : Nat) (hk : ∀ x, (enc x).length = k) (l : List α) (i c : Nat) (hi : i < l.length) (hc : c < k) : (l.flatMap enc)[i * k + c]? = (enc l[i])[c]? := by
  induction l generalizing i with
  | nil => cases hi
  | cons x l ih =>
    rw [List.flatMap_cons]
    cases i with
    | zero => rw [List.getElem?_append_left (by rw [hk]; omega)]; simp
    | succ i =>
      rw [List.getElem?_append_right (by rw [hk, Nat.add_mul]; omega)]
      have : (i + 1) * k + c - (enc x).length = i * k + c := by rw [hk, Nat.add_mul]; omega
      rw [this, ih i (by simpa using hi)]
      rfl
theorem flatMap_flatK {α : Type} [Inhabited α] (enc : α → List Value) (k : Nat) (hk : ∀ x, (enc x).length = k) (l : List α) : (flatK enc k l.toArray).toList = l.flatMap enc := by
  apply List.ext_getElem?
  intro j
  by_cases hj : j < l.length * k
  · have k0 : 0 < k := by
      rcases Nat.eq_zero_or_pos k with h | h
      · subst h; omega
      · exact h
    have hi : j / k < l.length := by rw [Nat.div_lt_iff_lt_mul k0]; exact hj
    have hc : j % k < k := Nat.mod_lt _ k0
    have h1 : (flatK enc k l.toArray)[j]! = (enc l.toArray[j / k]!)[j % k]! := get_flatK enc k l.toArray j (by simpa using hj)
    have hjs : j < (flatK enc k l.toArray).size := by rw [size_flatK]; simpa using hj
    rw [getElem!_pos _ j hjs, getElem!_pos l.toArray (j / k) (by simpa using hi)] at h1
    have h2 := flatMap_get enc k hk l (j / k) (j % k) hi hc
    rw [Nat.mul_comm, Nat.div_add_mod] at h2
    rw [h2, Array.getElem?_toList, Array.getElem?_eq_getElem hjs, h1]
    simp only [List.getElem_toArray]
    rw [getElem!_pos _ (j % k) (by rw [hk]; exact hc), List.getElem?_eq_getElem (by rw [hk]; exact hc)]
  · rw [List.getElem?_eq_none (by simp; omega), List.getElem?_eq_none (by rw [flatMap_len enc k hk]; omega)]
/-- A row of the call's own, as the sort wants it. -/
theorem holdsK_own {α : Type} [Inhabited α] (enc : α → List Value) (k : Nat) (hk : ∀ x, (enc x).length = k) {w : World} {g : Nat} {T : TypeId} {cur : Array Value} {l : List α} (hh : w.heap[g]? = some (.cells cur T (0, 0))) (htk : cur.toList.take (l.length * k) = l.flatMap enc) : HoldsK enc k w g 0 l.toArray := by
  intro j hj
  have hj' : j < l.length * k := by simpa using hj
  have hjs : j < (flatK enc k l.toArray).size := hj
  have h1 : (flatK enc k l.toArray).toList[j]? = some (flatK enc k l.toArray)[j]! := by rw [Array.getElem?_toList, Array.getElem?_eq_getElem hjs, getElem!_pos _ j hjs]
  rw [flatMap_flatK enc k hk, ← htk, List.getElem?_take, if_pos hj'] at h1
  refine ⟨?_, ?_⟩
  · simp only [World.cell?, hh, Nat.zero_add]
    simpa using h1
  · simp [World.frozen?, hh]
/-- .. and what the sort has left of it. -/
theorem own_swk {α : Type} [Inhabited α] (enc : α → List Value) (k : Nat) (hk : ∀ x, (enc x).length = k) {w w' : World} {g : Nat} {T : TypeId} {cur : Array Value} {d' : Array α} (S : SWK enc k w g 0 d' w') (hh : w.heap[g]? = some (.cells cur T (0, 0))) (hg : g < w.heap.size) (hsz : d'.size * k ≤ cur.size) :
    ∃ cur', w'.heap[g]? = some (.cells cur' T (0, 0)) ∧ cur'.size = cur.size ∧ cur'.toList.take (d'.size * k) = d'.toList.flatMap enc := by
  obtain ⟨m, os, rfl⟩ := S
  refine ⟨putCells id 0 (flatK enc k d') cur, ?_, by simp [putCells], ?_⟩
  · unfold sortWorldK
    rw [heap_grow_old _ _ (by rw [size_putRowK]; exact hg)]
    show (w.heap.modify g (onCells (putCells id 0 (flatK enc k d'))))[g]? = _
    rw [Array.getElem?_modify, if_pos rfl, hh]
    rfl
  · have e := flatMap_flatK enc k hk d'.toList
    rw [← e]
    apply List.ext_getElem?
    intro j
    rw [List.getElem?_take]
    simp only [Array.toArray_toList]
    split
    · rename_i hj
      have hjs : j < (flatK enc k d').size := by rw [size_flatK]; exact hj
      rw [Array.getElem?_toList, Array.getElem?_toList, Array.getElem?_eq_getElem hjs]
      simp only [putCells, Array.getElem?_mapIdx, Array.getElem?_eq_getElem (show j < cur.size by omega), Option.map_some]
      rw [if_pos (by omega), Nat.sub_zero, getElem!_pos _ j hjs]
      rfl
    · rename_i hj
      rw [List.getElem?_eq_none (by rw [Array.length_toList, size_flatK]; omega)]
/-- Nothing below is changed. -/
theorem below_swk {α : Type} [Inhabited α] (enc : α → List Value) (k : Nat) {w w' : World} {g B : Nat} {d' : Array α} (S : SWK enc k w g 0 d' w') (hB : B ≤ g) (hg : g < w.heap.size) : Below B w w' := by
  have hs := S.le
  obtain ⟨m, os, rfl⟩ := S
  refine ⟨rfl, rfl, rfl, hs, fun b hb => ?_⟩
  unfold sortWorldK
  rw [heap_grow_old _ _ (by rw [size_putRowK]; show b < w.heap.size; omega)]
  show (w.heap.modify g (onCells (putCells id 0 (flatK enc k d'))))[b]? = _
  rw [Array.getElem?_modify, if_neg (by omega)]
/-- The cells of a row of rows of numbers. -/
def flat3 (l : List (Int × Int × Int)) : List Value := l.flatMap encR
theorem flat3_len (l : List (Int × Int × Int)) : (flat3 l).length = l.length * 3 := flatMap_len encR 3 encR_len l
/-- Rows of numbers behind an address. -/
def RRow (w : World) (a : Option Addr) (l : List (Int × Int × Int)) : Prop := (a = none ∧ l = []) ∨ ∃ b off, a = some ⟨b, off, none⟩ ∧ b < w.heap.size ∧ ∀ j u, (flat3 l)[j]? = some u → w.cell? ⟨b, off + j, none⟩ = some u
theorem RRow.below {w w' : World} {a : Option Addr} {l : List (Int × Int × Int)} (h : RRow w a l) (hb : Below w.heap.size w w') : RRow w' a l := by
  rcases h with h | ⟨b, off, ha, hl, hc⟩
  · exact .inl h
  · exact .inr ⟨b, off, ha, Nat.lt_of_lt_of_le hl hb.size, fun j u hu => (hb.cell (p := ⟨b, off + j, none⟩) hl).trans (hc j u hu)⟩
end Go.Proofs.YtoclingolfdfeaaGreatDoor

/- GraF -/
namespace Go.Proofs.YtoclingolfdfeaaGreatDoor
open Go.RowKit Go.Deep

/-- One operation of a region that draws its order, taken first; its slot is d. -/
theorem take_at {P : Program} {md : Region.Mode} {ops : Array Oper} {Q : Exit → Act → World → Prop} {S : World → Prop} {i : Nat} {oi : Oper} {v : Value} {fuel : Nat} {listed : Array Bool} {a : Act} {w : World} (d : Nat) (hi : ops[i]? = some oi) (hd : oi.dst = some d)
    (hs : Region.noSelect ops = true) (hf : Region.free md ops listed i = true) (hr : (Region.ready md ops listed).contains i = true)
    (hQ : ∀ c a w, Q (.panic c) (a.put (some d) v) w → Q (.panic c) a w) (hy : YieldsIf P ops S oi v a) (hS : S w)
    (h : wpAnyH P md ops Q S fuel (listed.setIfInBounds i true) (a.put (some d) v) w) : wpAnyH P md ops Q S (fuel + 1) listed a w :=
  wpAnyH_take hi hs hf hr (by rw [hd]; exact hQ) hy hS (by rw [hd]; exact h)

theorem cmpOr3_any (x y z : Int) (b : Nat) (w : World) (h0 : w.cell? ⟨b, 0, none⟩ = some (.int .i64 x)) (h1 : w.cell? ⟨b, 1, none⟩ = some (.int .i64 y)) (h2 : w.cell? ⟨b, 2, none⟩ = some (.int .i64 z)) :
    Calls Tryz.prog 73 #[.slice (some ⟨b, 0, none⟩) 3 3] w fun e w' => e = .returned (.int .i64 (cmp3 x y z)) ∧ w' = w := by
  by_cases hx : x = 0
  · subst hx
    by_cases hy : y = 0
    · subst hy
      by_cases hz : z = 0
      · subst hz
        have e0 : cmp3 0 0 0 = 0 := rfl
        rw [e0]
        go_enter Tryz.func73, Tryz.ntmps73
        go_wp2
        refine wp_loop_rounds 4 ?_
        rw [rounds_succ]
        go_wp2
        rw [rounds_succ]
        go_wp2
        rw [rounds_succ]
        go_wp2
        rw [rounds_succ]
        go_wp2
        go_ret
        exact ⟨rfl, rfl⟩
      · have hz' : (z != 0) = true := by simp; omega
        have e0 : cmp3 0 0 z = z := rfl
        rw [e0]
        clear hz
        go_enter Tryz.func73, Tryz.ntmps73
        go_wp2
        refine wp_loop_rounds 3 ?_
        rw [rounds_succ]
        go_wp2
        rw [rounds_succ]
        go_wp2
        rw [rounds_succ]
        go_wp2
        go_ret
        exact ⟨rfl, rfl⟩
    · have hy' : (y != 0) = true := by simp; omega
      have e0 : cmp3 0 y z = y := by unfold cmp3 orI; simp [hy]
      rw [e0]
      clear hy
      go_enter Tryz.func73, Tryz.ntmps73
      go_wp2
      refine wp_loop_rounds 2 ?_
      rw [rounds_succ]
      go_wp2
      rw [rounds_succ]
      go_wp2
      go_ret
      exact ⟨rfl, rfl⟩
  · have hx' : (x != 0) = true := by simp; omega
    have e0 : cmp3 x y z = x := by unfold cmp3 orI; simp [hx]
    rw [e0]
    clear hx
    go_enter Tryz.func73, Tryz.ntmps73
    go_wp2
    refine wp_loop_rounds 1 ?_
    rw [rounds_succ]
    go_wp2
    go_ret
    exact ⟨rfl, rfl⟩

/-- Two terms that may be, compared. -/
def tcmp (t t' : Tm) (b b' : List Int) : Int := cmp3 (cmpI t.k t'.k) (cmpB b b') (cmpN t.n t.s.toNat t'.n t'.s.toNat)
/-- Two triples that may be. -/
def tcmp3 (t u v t' u' v' : Tm) (bt bu bv bt' bu' bv' : List Int) : Int := cmp3 (tcmp t t' bt bt') (tcmp u u' bu bu') (tcmp v v' bv bv')
theorem tripleOk_out {t u v : Tm} {bt bu bv : List Int} (h : tripleOk t u v bt bu bv = true) : termOk t.k bt t.n t.s = true ∧ termOk u.k bu u.n u.s = true ∧ termOk v.k bv v.n v.s = true := by
  unfold tripleOk at h
  simp only [Bool.and_eq_true] at h
  exact ⟨h.1.1.1.1, h.1.1.1.2, h.1.1.2⟩

end Go.Proofs.YtoclingolfdfeaaGreatDoor
