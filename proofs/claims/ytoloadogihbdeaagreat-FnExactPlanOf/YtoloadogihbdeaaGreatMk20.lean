import Derived.Test.YtoloadogihbdeaaGreatMk19
namespace Go.Proofs.YtoloadogihbdeaaGreat
open Go.RowKit Go.Deep
set_option maxHeartbeats 40000000
set_option maxRecDepth 100000
variable {K : Act → World → Prop} {ops : Array Oper} {e : ET} {Q : Exit → Act → World → Prop} {k o : Int} {cs v : List Int} {l : List PB} {B M N g hi i lo n q sz : Nat} {a : Option Addr} {x : PB} {y z : PT} {w w' w0 : World}
structure CM (B : Nat) (w : World) (g : Nat) (cs : List Int) : Prop where
 h : ∃ a cap full, ∃ i : Nat, OB w g [.slice a full.length cap, .int .i64 i] ∧ i ≤ full.length ∧ full.length ≤ 1048576 ∧ cs = full.drop i ∧ NumR B w g a full
 r : ∀ x ∈ cs, -9223372036854775808 ≤ x ∧ x ≤ 9223372036854775807
theorem NumR.below (h : NumR B w g a cs) (hb : Bl w w') : NumR B w' g a cs :=
 h.imp id fun ⟨b, off, ha, hlt, hne, hc⟩ => ⟨b, off, ha, Nat.lt_of_lt_of_le hlt hb.size, hne, fun i x hx => (hb.cell (p := ⟨b, off + i, none⟩) hlt).trans (hc i x hx)⟩
theorem CM.below (h : CM B w g cs) (hb : Bl w w') : CM B w' g cs := by
 obtain ⟨⟨a, cap, full, i, ho, h1, h2, h3, h4⟩, h5⟩ := h;exact ⟨⟨a, cap, full, i, ho.below hb, h1, h2, h3, h4.below hb⟩, h5⟩
theorem CH.below (h : CH B w g cs) (hb : Bl w w') : CH B w' g cs := by
 obtain ⟨⟨a, cap, ho, h1, h2⟩, h5⟩ := h;exact ⟨⟨a, cap, ho.below hb, h1, h2.below hb⟩, h5⟩
theorem tqU {P : Program} {md : Region.Mode} {S : World → Prop} (i d : Nat) {oi : Oper} {fuel : Nat} {listed : Array Bool} {a a' : Act}
 (h : wpAnyH P md ops Q S fuel (listed.setIfInBounds i true) a' w) (hS : S w := by assumption) (hi : ops[i]? = some oi := by rfl) (hd : oi.dst = some d := by rfl) (hk : (Region.noSelect ops && (Region.free md ops listed i && (Region.ready md ops listed).contains i)) = true := by kernel_rfl)
 (hQ : ∀ c a w, Q (.panic c) (a.put (some d) undef) w → Q (.panic c) a w := by exact fun _ _ _ h => h) (hg : Region.wanted oi (yielded ops a.tmps) = false := by rfl) (ha : a.put (some d) undef = a' := by (try simp only [Act.put, sA, zA, cA]); rfl) : wpAnyH P md ops Q S (fuel + 1) listed a w := by
 simp only [Bool.and_eq_true] at hk;exact takeq d hi hd hk.1 hk.2.1 hk.2.2 hQ (Or.inr ⟨hg, rfl⟩) hS (ha ▸ h)
def Amm (B : Nat) (w : World) (g : Nat) (cs : List Int) (n : Nat) (e : Ending) (w' : World) : Prop := ∃ k : Int, e = .returned (.int .i64 k) ∧ Hd (k = ((pick cs n).1 : Nat)) ∧ CM B w' g (pick cs n).2 ∧ Past g w w'
theorem l7pick_any (g n : Nat) (cs : List Int) (w : World) (h : CM B w g cs) (hn : n ≤ 1048576) :
 Calls Tryz.prog 74 #[.pointer (some ⟨g, 0, none⟩), .int .i64 n] w (Amm B w g cs n) := by
 have H := iH h;obtain ⟨⟨a, cap, full, i, ho, hi, hfl, hcs, hr⟩, hx⟩ := h;have c0 := (ho.2 0 _ rfl).1;have c1 := (ho.2 1 _ rfl).1;have f1 := (ho.2 1 _ rfl).2;by_cases hge : full.length ≤ i
 · have e := iH (show cs = [] by rw [hcs]; exact List.drop_eq_nil_of_le hge)
   have hd : (full.length : Int) ≤ i := by omega
   clear hr hx ho hcs;go_in;go_wp2_with fail
   refine wqd (fun w' => w'.cell? ⟨g, 0, none⟩ = some (.slice a full.length cap) ∧ w'.cell? ⟨g, 1, none⟩ = some (.int .i64 i)) ?_ fun hHeld => ?_
   · exact ⟨c0, c1⟩
   refine tqB 0 6 ?_;refine tqB 1 7 (v := .pointer (some ⟨g, 0, none⟩)) ?_;refine tqB 2 8 ?_;refine tqB 3 9 (v := .int .i64 i) (hy := by intro w' hSw; have c1 := hSw.2; go_simp; (try with_reducible rfl)) ?_;refine tqB 4 10 ?_;refine tqB 5 11 (v := .pointer (some ⟨g, 0, none⟩)) ?_;refine tqB 6 12 ?_;refine tqB 7 13 (v := .slice a full.length cap) (hy := by intro w' hSw; have c0 := hSw.1; go_simp; (try with_reducible rfl)) ?_;refine tqB 8 14 (v := .int .i64 full.length) ?_;refine tqB 9 15 (v := .bool true) (hy := by intro w' hSw; go_simp) ?_;refine tqB 10 16 (v := .bool true) ?_;refine tqU 11 17 ?_;refine tqU 12 18 ?_;refine tqB 13 19 (v := .bool true) ?_;refine wpAnyH_done (by kernel_rfl) ?_ _;go_wp2;go_ret;exact ⟨0, rfl, (show (0 : Int) = _ by rw [e.o]; rfl), (by rw [show (pick cs n).2 = cs by rw [e.o]; rfl]; exact H.o.below bdr), Past.of_below bdr⟩
 have hd : ¬ (full.length : Int) ≤ i := by omega
 by_cases h2 : n < 2
 · have hd2 : (n : Int) < 2 := by omega
   have e : Hd ((pick cs n).1 = 0 ∧ (pick cs n).2 = cs) := by
    show (pick cs n).1 = 0 ∧ _;cases cs with
    | nil => exact ⟨rfl, rfl⟩
    | cons x l => rw [pick_low h2]; exact ⟨rfl, rfl⟩
   clear hr hx ho hcs;go_in;go_wp2_with fail
   refine wqd (fun w' => w'.cell? ⟨g, 0, none⟩ = some (.slice a full.length cap) ∧ w'.cell? ⟨g, 1, none⟩ = some (.int .i64 i)) ?_ fun hHeld => ?_
   · exact ⟨c0, c1⟩
   refine tqB 0 6 ?_;refine tqB 1 7 (v := .pointer (some ⟨g, 0, none⟩)) ?_;refine tqB 2 8 ?_;refine tqB 3 9 (v := .int .i64 i) (hy := by intro w' hSw; have c1 := hSw.2; go_simp; (try with_reducible rfl)) ?_;refine tqB 4 10 ?_;refine tqB 5 11 (v := .pointer (some ⟨g, 0, none⟩)) ?_;refine tqB 6 12 ?_;refine tqB 7 13 (v := .slice a full.length cap) (hy := by intro w' hSw; have c0 := hSw.1; go_simp; (try with_reducible rfl)) ?_;refine tqB 8 14 (v := .int .i64 full.length) ?_;refine tqB 9 15 (v := .bool false) (hy := by intro w' hSw; go_simp) ?_;refine tqB 10 16 (v := .bool false) ?_;refine tqB 11 17 ?_;refine tqB 12 18 (v := .bool true) (hy := by intro w' hSw; go_simp) ?_;refine tqB 13 19 (v := .bool true) ?_;refine wpAnyH_done (by kernel_rfl) ?_ _;go_wp2;go_ret;exact ⟨0, rfl, (show (0 : Int) = _ by rw [e.o.1]; rfl), by rw [e.o.2]; exact H.o.below bdr, Past.of_below bdr⟩
 obtain ⟨x, hxi⟩ : ∃ x, full[i]? = some x := ⟨full[i], List.getElem?_eq_getElem (by omega)⟩;have hcs2 : cs = x :: full.drop (i + 1) := by
  rw [hcs, List.drop_eq_getElem_cons (by omega)];congr 1;rw [List.getElem?_eq_getElem (by omega)] at hxi;exact Option.some.inj hxi
 obtain ⟨b, off, rfl, hb, hne, hc⟩ := hr.resolve_left (fun h => by rw [h] at hxi; simp at hxi);have HCX := iH (hc i x hxi);have HC := iH hc;have HX := iH hx;have HN : Hd (pick cs n = ((x % (n : Int)).toNat, full.drop (i + 1))) := (show pick cs n = _ by rw [hcs2]; exact pick_next (by omega));have HO := iH ho;have HE := iH (tmod_emod x (n := n) (by omega));have h0 := Int.emod_nonneg x (show (n : Int) ≠ 0 by omega);have hlt := Int.emod_lt_of_pos x (show (0 : Int) < (n : Int) by omega);have hd2 : ¬ (n : Int) < 2 := by omega
 have hn0 : ¬ (n : Int) = 0 := by omega
 have hil : i < full.length := by omega
 have HXS : Hd (∀ y ∈ full.drop (i + 1), y ∈ cs) := fun y hy => by rw [hcs2]; exact List.mem_cons_of_mem _ hy
 have HM : Hd (∀ W, Bl w W → CM B (W.setCell ⟨g, 1, none⟩ (.int .i64 ((i : Int) + 1))) g (pick cs n).2) := fun W hW => by
  rw [HN.o];have hg := (HO.o.below hW).set 1 (.int .i64 ((i : Int) + 1));refine ⟨⟨some ⟨b, off, none⟩, cap, full, i + 1, by simpa using hg, by omega, hfl, rfl, .inr ⟨b, off, rfl, by simpa using Nat.lt_of_lt_of_le hb hW.size, hne, fun j y hy => ?_⟩⟩, fun y hy => HX.o y (HXS.o y hy)⟩
  rw [cell_set_other (.inl hne.1)];exact (hW.cell (p := ⟨b, off + j, none⟩) hb).trans (HC.o j y hy)
 have HE1 : Hd (∀ k : Int, k = x % (n : Int) → k = ((pick cs n).1 : Nat)) := fun k hk => by rw [HN.o, hk]; exact (Int.toNat_of_nonneg h0).symm
 clear hr hx ho hcs hc hcs2 hxi;go_in;go_wp2_with fail
 refine wqd (fun w' => w'.cell? ⟨g, 0, none⟩ = some (.slice (some ⟨b, off, none⟩) full.length cap) ∧ w'.cell? ⟨g, 1, none⟩ = some (.int .i64 i)) ?_ fun hHeld => ?_
 · exact ⟨c0, c1⟩
 refine tqB 0 6 ?_;refine tqB 1 7 (v := .pointer (some ⟨g, 0, none⟩)) ?_;refine tqB 2 8 ?_;refine tqB 3 9 (v := .int .i64 i) (hy := by intro w' hSw; have c1 := hSw.2; go_simp; (try with_reducible rfl)) ?_;refine tqB 4 10 ?_;refine tqB 5 11 (v := .pointer (some ⟨g, 0, none⟩)) ?_;refine tqB 6 12 ?_;refine tqB 7 13 (v := .slice (some ⟨b, off, none⟩) full.length cap) (hy := by intro w' hSw; have c0 := hSw.1; go_simp; (try with_reducible rfl)) ?_;refine tqB 8 14 (v := .int .i64 full.length) ?_;refine tqB 9 15 (v := .bool false) (hy := by intro w' hSw; go_simp) ?_;refine tqB 10 16 (v := .bool false) ?_;refine tqB 11 17 ?_;refine tqB 12 18 (v := .bool false) (hy := by intro w' hSw; go_simp) ?_;refine tqB 13 19 (v := .bool false) ?_;refine wpAnyH_done (by kernel_rfl) ?_ _;generalize hW1 : w.drew = w1 at *;go_wp2_with fail
 refine wqd (fun w' => w'.cell? ⟨g, 0, none⟩ = some (.slice (some ⟨b, off, none⟩) full.length cap) ∧ w'.cell? ⟨g, 1, none⟩ = some (.int .i64 i) ∧ w'.cell? ⟨b, off + i, none⟩ = some (.int .i64 x)) ?_ fun hHeld => ?_
 · subst hW1
   exact ⟨c0, c1, HCX.o⟩
 refine tqB 0 20 ?_;refine tqB 1 21 (v := .pointer (some ⟨g, 0, none⟩)) ?_;refine tqB 2 22 ?_;refine tqB 3 23 (v := .slice (some ⟨b, off, none⟩) full.length cap) (hy := by intro w' hSw; have c0 := hSw.1; go_simp; (try with_reducible rfl)) ?_;refine tqB 4 24 ?_;refine tqB 5 25 (v := .pointer (some ⟨g, 0, none⟩)) ?_;refine tqB 6 26 ?_;refine tqB 7 27 (v := .int .i64 i) (hy := by intro w' hSw; have c1 := hSw.2.1; go_simp; (try with_reducible rfl)) ?_;refine tqB 8 28 (v := .pointer (some ⟨b, off + i, none⟩)) ?_;refine tqB 9 29 (v := .int .i64 x) (hy := by intro w' hSw; have c0 := hSw.2.2; go_simp; (try with_reducible rfl)) ?_;refine tqB 10 30 (v := .int .i64 n) ?_;refine tqB 11 31 (v := .int .i64 (Int.tmod x n)) (hy := by intro w' hSw; go_simp; omega) ?_;refine tqB 12 5 (v := .int .i64 (Int.tmod x n)) ?_;refine wpAnyH_done (by kernel_rfl) ?_ _;have HB2 : Hd (Bl w w1.drew) := (show Below _ _ _ by rw [← hW1]; exact Below.drew bdr);have c0 := hHeld.1;have c1 := hHeld.2.1;have f1 : w1.drew.frozen? ⟨g, 1, none⟩ = w.frozen? ⟨g, 1, none⟩ := by rw [← hW1]; rfl
 rw [← hW1] at *;generalize hW2 : w.drew.drew = w2 at *;clear hHeld;by_cases hs : Int.tmod x n < 0
 · go_wp2
   go_ret;refine ⟨_, rfl, HE1.o _ ?_, HM.o _ HB2.o, (Past.of_below HB2.o).set 1 _⟩;have e := HE.o;rw [if_pos hs] at e;rw [e];(unfold wrap64; omega)
 go_wp2;go_ret;refine ⟨_, rfl, HE1.o _ ?_, HM.o _ HB2.o, (Past.of_below HB2.o).set 1 _⟩;have e := HE.o;rw [if_neg (Int.not_lt.2 hs)] at e;exact e
def surL : AT → List (List Int) → List (List Int)
 | .nil, l => l
 | .mk d kid, l => if d.k = 0 then foldN d.pn (fun i acc => ptV (d.pat i) acc) l
   else if d.k = 7 then addV l d.v.b
   else if d.k = 1 then surL (kid 1) (surL (kid 0) l)
   else if d.k = 3 then (surL (kid 0) []).foldl (fun acc x => if x ∈ surL (kid 1) [] then addV acc x else acc) l
   else surL (kid 0) l
theorem mem_addV {x : List Int} {l : List (List Int)} : v ∈ addV l x ↔ v ∈ l ∨ (v ≠ [] ∧ v = x) := by
 unfold addV;split
 · rename_i h
   refine ⟨.inl, fun h2 => h2.elim id fun h3 => ?_⟩;rcases h with h | h
   · exact absurd (h3.2.trans h) h3.1
   exact h3.2 ▸ h
 rename_i h;rw [List.mem_append, List.mem_singleton];constructor
 · rintro (h2 | h2)
   · exact .inl h2
   exact .inr ⟨fun h4 => h (.inl (h2.symm.trans h4)), h2⟩
 exact fun h2 => h2.imp id And.right
theorem mem_ptV {p : PB} {l : List (List Int)} : v ∈ ptV p l ↔ v ∈ l ∨ (v ≠ [] ∧ (v = p.s.v.b ∨ v = p.p.v.b ∨ v = p.o.v.b)) := by
 unfold ptV;rw [mem_addV, mem_addV, mem_addV];constructor
 · rintro (((h | h) | h) | h)
   · exact .inl h
   · exact .inr ⟨h.1, .inl h.2⟩
   · exact .inr ⟨h.1, .inr (.inl h.2)⟩
   exact .inr ⟨h.1, .inr (.inr h.2)⟩
 rintro (h | ⟨h, h2 | h2 | h2⟩)
 · exact .inl (.inl (.inl h))
 · exact .inl (.inl (.inr ⟨h, h2⟩))
 · exact .inl (.inr ⟨h, h2⟩)
 exact .inr ⟨h, h2⟩
theorem mem_pats {pat : Nat → PB} : ∀ (n : Nat) {l : List (List Int)}, v ∈ foldN n (fun i acc => ptV (pat i) acc) l ↔ v ∈ l ∨ ((List.range n).any fun i => v != [] && (v == (pat i).s.v.b || v == (pat i).p.v.b || v == (pat i).o.v.b)) = true
 | 0, l => by
   show v ∈ l ↔ _
   simp
 | n + 1, l => by
   show v ∈ ptV (pat n) (foldN n (fun i acc => ptV (pat i) acc) l) ↔ _
   rw [mem_ptV, mem_pats n, List.range_succ, List.any_append, Bool.or_eq_true, or_assoc]
   refine or_congr Iff.rfl (or_congr Iff.rfl ?_)
   simp [or_assoc]
theorem mem_both {m : List (List Int)} : ∀ (k : List (List Int)) {l : List (List Int)}, v ∈ k.foldl (fun acc x => if x ∈ m then addV acc x else acc) l ↔ v ∈ l ∨ (v ≠ [] ∧ v ∈ k ∧ v ∈ m)
 | [], l => by simp
 | x :: k, l => by
   rw [List.foldl_cons, mem_both k]
   by_cases hx : x ∈ m
   · rw [if_pos hx, mem_addV, List.mem_cons]
     constructor
     · rintro ((h | h) | h)
       · exact .inl h
       · exact .inr ⟨h.1, .inl h.2, h.2 ▸ hx⟩
       exact .inr ⟨h.1, .inr h.2.1, h.2.2⟩
     rintro (h | ⟨h, h2 | h2, h3⟩)
     · exact .inl (.inl h)
     · exact .inl (.inr ⟨h, h2⟩)
     exact .inr ⟨h, h2, h3⟩
   rw [if_neg hx, List.mem_cons]
   refine or_congr Iff.rfl ⟨fun h => ⟨h.1, .inr h.2.1, h.2.2⟩, fun h => ⟨h.1, h.2.1.elim (fun h2 => absurd (h2 ▸ h.2.2) hx) id, h.2.2⟩⟩
theorem sure_some {a : AT} : sureB v a = true → v ≠ [] := by
 induction a with
 | nil => intro h; cases h
 | mk d kid ih =>
  intro h;unfold sureB at h;split at h
  · obtain ⟨i, _, hi⟩ := List.any_eq_true.1 h
    simp only [Bool.and_eq_true, bne_iff_ne] at hi;exact hi.1
  split at h
  · simp only [Bool.and_eq_true, bne_iff_ne] at h
    exact h.1
  split at h
  · rw [Bool.or_eq_true] at h
    exact h.elim (ih 0) (ih 1)
  split at h
  · rw [Bool.and_eq_true] at h
    exact ih 0 h.1
  exact ih 0 h
theorem mem_surL {a : AT} : ∀ {l : List (List Int)}, v ∈ surL a l ↔ v ∈ l ∨ sureB v a = true := by
 induction a with
 | nil =>
  intro l;show v ∈ l ↔ v ∈ l ∨ false = true;simp
 | mk d kid ih =>
  intro l;unfold surL sureB;by_cases h0 : d.k = 0
  · rw [if_pos h0, if_pos h0]
    exact mem_pats _
  rw [if_neg h0, if_neg h0];by_cases h7 : d.k = 7
  · rw [if_pos h7, if_pos h7, mem_addV]
    simp
  rw [if_neg h7, if_neg h7];by_cases h1 : d.k = 1
  · rw [if_pos h1, if_pos h1, ih 1, ih 0, Bool.or_eq_true, or_assoc]
  rw [if_neg h1, if_neg h1];by_cases h3 : d.k = 3
  · rw [if_pos h3, if_pos h3, mem_both, ih 0, ih 1, Bool.and_eq_true]
    refine or_congr Iff.rfl ⟨fun h => ⟨h.2.1.resolve_left (by simp), h.2.2.resolve_left (by simp)⟩, fun h => ⟨sure_some h.1, .inr h.1, .inr h.2⟩⟩
  rw [if_neg h3, if_neg h3];exact ih 0
theorem both_len {m : List (List Int)} : ∀ (k : List (List Int)) {l : List (List Int)}, (k.foldl (fun acc x => if x ∈ m then addV acc x else acc) l).length ≤ l.length + k.length
 | [], l => by simp
 | x :: k, l => by
   rw [List.foldl_cons]
   have h1 := both_len (m := m) k (l := if x ∈ m then addV l x else l)
   have h2 := addV_len l x
   rw [List.length_cons]
   split at h1 <;> rename_i hx
   · rw [if_pos hx]; omega
   rw [if_neg hx]; omega
theorem surL_len {a : AT} : ∀ {l : List (List Int)}, WA a → (surL a l).length ≤ l.length + ac a := by
 induction a with
 | nil => exact fun h => False.elim h
 | mk d kid ih =>
  intro l hw;obtain ⟨⟨w0, w7, wn⟩, _, _, _, wk⟩ := hw;have hac : ac (.mk d kid) = 3 * d.pn + esz d.e + 1 + sumN d.n (fun i => ac (kid i)) := rfl;rw [hac];unfold surL;by_cases h0 : d.k = 0
  · rw [if_pos h0]
    have h1 := foldN_len (f := (fun i acc => ptV (d.pat i) acc)) (c := fun _ => 3) (n := d.pn) (fun i l _ => ptV_len (d.pat i) l) l;rw [sum3] at h1;omega
  rw [if_neg h0];by_cases h7 : d.k = 7
  · rw [if_pos h7]
    have := addV_len l d.v.b;omega
  rw [if_neg h7];by_cases h56 : d.k = 5 ∨ d.k = 6
  · have hn := wn.trans (kidsA_one h56)
    rw [if_neg (by omega), if_neg (by omega)];have h1 := ih 0 (l := l) (wk 0 (by omega));have h2 := sumN_le (f := fun i => ac (kid i)) (show 0 < d.n by omega);have h3 : (fun i => ac (kid i)) 0 = ac (kid 0) := rfl;omega
  have hn := wn.trans (kidsA_two (by omega));have hs : sumN d.n (fun i => ac (kid i)) = ac (kid 0) + ac (kid 1) := by rw [hn]; exact sum_two
  by_cases h1 : d.k = 1
  · rw [if_pos h1]
    have q0 := ih 0 (l := l) (wk 0 (by omega));have q1 := ih 1 (l := surL (kid 0) l) (wk 1 (by omega));omega
  rw [if_neg h1];have q0 := ih 0 (l := l) (wk 0 (by omega));by_cases h3 : d.k = 3
  · rw [if_pos h3]
    have q1 := both_len (m := surL (kid 1) []) (surL (kid 0) []) (l := l);have q2 := ih 0 (l := []) (wk 0 (by omega));simp only [List.length_nil] at q2;omega
  rw [if_neg h3];omega
theorem VL.lower {B' : Nat} {v : Value} {L : List SL} (h : VL w0 w B v L) (hB : B' ≤ B) : VL w0 w B' v L := by
 obtain ⟨⟨h1, h2⟩, hl, ht⟩ := h;refine ⟨⟨h1, ?_⟩, fun c hc => ⟨Nat.le_trans hB (hl c hc).1, (hl c hc).2⟩, ht⟩;rcases h2 with h2 | ⟨g', cap', cur, hv, hB2, hh, r⟩
 · exact .inl h2
 exact .inr ⟨g', cap', cur, hv, Nat.le_trans hB hB2, hh, r⟩
theorem l7sure_any (e : AT) : ∀ (v : Value) (L : List SL) (B : Nat) (w0 w : World), WA e → e.lies 0 w0 → VL w0 w B v L → Bl w0 w → L.length + ac e ≤ 1000000 → B ≤ w.heap.size → w0.heap.size ≤ B →
 Calls Tryz.prog 139 #[v, .agg e.d.ar] w (AddAns w0 B v (surL e (L.map SL.b)) w) := by
 try unfold AN.ar AN.cl
 induction e with
 | nil => exact fun _ _ _ _ _ h => False.elim h
 | mk d kid ih =>
  intro v L B w0 w hwa hl hV hw hn hB hwB;show Calls Tryz.prog 139 #[v, .agg d.ar] w (AddAns w0 B v (surL (.mk d kid) (L.map SL.b)) w);have HWA := iH hwa;obtain ⟨⟨k0, k7, kn⟩, _, _, _, wk⟩ := hwa;obtain ⟨hp, hpl, hpn, he, hv, _, _, hn20, hR, hk⟩ := hl;have hac : ac (.mk d kid) = 3 * d.pn + esz d.e + 1 + sumN d.n (fun i => ac (kid i)) := rfl;obtain ⟨W, hW⟩ : ∃ W, W = w.alloc (.cells d.ar 52) := ⟨_, rfl⟩;have hbW : Bl w W := by rw [hW]; exact bl_a _
  have HWE := iH hW;have HNV := iH hV.ne;have HLS : Hd (LS w0 w W B v v L d.cl W) := ⟨hV.below hbW, Kp.of_below brf, (show Box _ _ _ by rw [hW]; exact Box.new w d.ar 52 _), hw.trans (hbW.mono hw.size), Nat.le_trans hB hbW.size, hV.ne⟩;have HBW := iH hbW;have HVX := iH hv;have HKR := iH hR;have HIH := iH (fun i (hi : i < d.n) (v' : Value) (L' : List SL) (W' : World) (q1 : VL w0 W' B v' L') (q2 : Below _ w0 W') (q3 : L'.length + ac _ ≤ 1000000) (q4 : B ≤ W'.heap.size) => ih i v' L' B w0 W' (wk i hi) (hk i hi) q1 q2 q3 q4 hwB);have HIN : Hd (∀ i, i < d.n → ∀ (W' : World), Bl w0 W' → ac (kid i) ≤ 1000000 → w0.heap.size ≤ W'.heap.size → Cl 139 #[.slice none 0 0, .agg (kid i).d.ar] W' (AddAns w0 W'.heap.size (.slice none 0 0) (surL (kid i) []) W')) := fun i hi W' q2 q3 q4 => ih i _ [] _ w0 W' (wk i hi) (hk i hi) (VL.nil _ _ _) q2 (by simpa using q3) nR q4;have HLP : Hd (∀ k, k ≤ d.pn → (foldN k (fun i acc => ptV (d.pat i) acc) (L.map SL.b)).length ≤ L.length + 3 * k) := fun k _ => by
   have h1 := foldN_len (f := (fun i acc => ptV (d.pat i) acc)) (c := fun _ => 3) (n := k) (fun i l _ => ptV_len (d.pat i) l) (L.map SL.b);rw [sum3, List.length_map] at h1;exact h1
  have HLA : Hd (L.length + 3 * d.pn + esz d.e + 1 + sumN d.n (fun i => ac (kid i)) ≤ 1000000) := (show _ ≤ 1000000 by omega);have x0 := HLS.o.bx.2 0 _ rfl;have x1 := HLS.o.bx.2 1 _ rfl;have x10 := HLS.o.bx.2 10 _ rfl;have x12 := HLS.o.bx.2 12 _ rfl;have HWK : Hd ((0 ≤ d.k ∧ d.k ≤ 7 ∧ d.n = kidsA d.k) ∧ ∀ i, i < d.n → WA (kid i)) := ⟨⟨k0, k7, kn⟩, wk⟩;have HPR := iH hp;have HPL := iH hpl;clear hR hk ih hv hV hw hn hB hbW hac hp hpl he wk k0 k7 kn;go_in;go_upto_region 1 with fail
  rw [← hW];clear hW;have HS0 := iH (HLS.o.below bdr);by_cases h0 : d.k = 0
  · have HSU : Hd (surL (.mk d kid) (L.map SL.b) = foldN d.pn (fun i acc => ptV (d.pat i) acc) (L.map SL.b)) := (show _ = _ by unfold surL; rw [if_pos h0])
    clear HIH HIN HKR HWA HWK x10 x12 HS0 x0;have x0 : W.cell? ⟨w.heap.size, 0, none⟩ = some (.int .i64 0) := by have h := HLS.o.bx.2 0 _ rfl; rw [h0] at h; exact h
    clear h0;go_wp2_with fail
    go_loopw [0, 5] (fun lv i wr => ∃ (k : Nat) (v' : Value) (L' : List SL), k ≤ d.pn ∧ v' = lv ∧ i = .int .i64 k ∧ Hd (LS w0 w W B v v' L' [.int .i64 d.k, .slice d.pa d.pn d.pc, .int .i64 d.e.d.k, .int .i64 d.e.d.op, .slice d.e.d.v.a d.e.d.v.len d.e.d.v.cap, .int .i64 d.e.d.t.t.k, .slice d.e.d.t.t.a d.e.d.t.t.len d.e.d.t.t.cap, .int .i64 d.e.d.t.t.n, .int .i64 d.e.d.t.t.s, .slice d.e.d.ka d.e.d.n d.e.d.kc, .slice d.v.a d.v.len d.v.cap, .slice d.ta d.tb.length d.tc, .slice d.ka d.n d.kc] wr) ∧ Hd (L'.map SL.b = foldN k (fun i acc => ptV (d.pat i) acc) (L.map SL.b))) (fun _ i _ => d.pn - (intOf i).toNat)
    case atStart => exact ⟨0, v, L, nZ, rfl, rfl, HLS, (show L.map SL.b = L.map SL.b from rfl)⟩
    clear HLS x0 x1;obtain ⟨k, v', L', hk, rfl, rfl, HSr, HRr⟩ := hrel;have x1 := HSr.o.bx.2 1 _ rfl;by_cases hlk : k < d.pn
    · have hlkz : (k : Int) < (d.pn : Int) := by omega
      obtain ⟨b, off, eP, _, hbp, hcp⟩ := HPR.o.resolve_left (by omega);have HF : Hd (∀ w', (Bl w0 w' ∧ Box w' w.heap.size d.cl) → w'.cell? ⟨w.heap.size, 1, none⟩ = some (.slice (some ⟨b, off, none⟩) d.pn d.pc) ∧ w'.cell? ⟨b, off + k * 15, none⟩ = some (.slice (d.pat k).s.v.a (d.pat k).s.v.len (d.pat k).s.v.cap) ∧ w'.cell? ⟨b, off + k * 15 + 5, none⟩ = some (.slice (d.pat k).p.v.a (d.pat k).p.v.len (d.pat k).p.v.cap) ∧ w'.cell? ⟨b, off + k * 15 + 10, none⟩ = some (.slice (d.pat k).o.v.a (d.pat k).o.v.len (d.pat k).o.v.cap)) := fun w' hw' => ⟨by rw [← eP]; exact hw'.2.2 1 _ rfl, (hw'.1.cell (p := ⟨b, off + k * 15 + 0, none⟩) hbp).trans (hcp k hlk 0 _ rfl), (hw'.1.cell (p := ⟨b, off + k * 15 + 5, none⟩) hbp).trans (hcp k hlk 5 _ rfl), (hw'.1.cell (p := ⟨b, off + k * 15 + 10, none⟩) hbp).trans (hcp k hlk 10 _ rfl)⟩
      have HPT : Hd (BsF 0 w0 (d.pat k).s.v ∧ BsF 0 w0 (d.pat k).p.v ∧ BsF 0 w0 (d.pat k).o.v) := ⟨(HPL.o k hlk).1.1, (HPL.o k hlk).2.1.1, (HPL.o k hlk).2.2.1⟩;have HBr := iH HSr.o.bl;have HXr := iH HSr.o.bx;have HS0 := iH (HSr.o.below bdr);have HE0 : Hd (L'.map SL.b = foldN k (fun i acc => ptV (d.pat i) acc) (L.map SL.b)) := HRr;have HLNA : Hd (∀ n, n = 1 ∨ n = 2 → (if n = 1 then addV (foldN k (fun i acc => ptV (d.pat i) acc) (L.map SL.b)) (d.pat k).s.v.b else addV (addV (foldN k (fun i acc => ptV (d.pat i) acc) (L.map SL.b)) (d.pat k).s.v.b) (d.pat k).p.v.b).length ≤ 1000000) := fun n hn => by
       have h1 := HLP.o k (by omega);have h2 := addV_len (foldN k (fun i acc => ptV (d.pat i) acc) (L.map SL.b)) (d.pat k).s.v.b;have h3 := addV_len (addV (foldN k (fun i acc => ptV (d.pat i) acc) (L.map SL.b)) (d.pat k).s.v.b) (d.pat k).p.v.b;have h4 := HLA.o;rcases hn with rfl | rfl
       · rw [if_pos rfl]; omega
       rw [if_neg (by decide)]; omega
      have HLN1 := iH (show L'.length ≤ 1000000 by have h1 := congrArg List.length HE0.o; rw [List.length_map] at h1; have h2 := HLP.o k (by omega); have h3 := HLA.o; omega);rw [eP] at x1;clear eP hcp;go_wp2_with fail
      refine whd (fun w' => Bl w0 w' ∧ Box w' w.heap.size d.cl) ?_ fun hHeld => ?_
      · exact ⟨Below.drew HBr.o, HXr.o.below bdr⟩
      refine tkB 0 26 ?_;refine tkB 1 27 ?_;refine tkA 2 28 (v := ?v3) ?y3 ?_
      case y3 => (intro w' hSw; obtain ⟨q1, q2, q3, q4⟩ := HF.o w' hSw; go_simp; (try with_reducible rfl))
      refine tkB 3 29 ?_;refine tkB 4 30 ?_;refine tkB 5 31 ?_;refine tkB 6 32 ?_;refine tkA 7 33 (v := ?v8) ?y8 ?_
      case y8 => (intro w' hSw; obtain ⟨q1, q2, q3, q4⟩ := HF.o w' hSw; go_simp; (try with_reducible rfl))
      refine tkB 9 35 ?_;refine tkA 10 36 (v := ?v10) ?y10 ?_
      case y10 => (intro w' hSw; obtain ⟨q1, q2, q3, q4⟩ := HF.o w' hSw; go_simp; (try with_reducible rfl))
      refine tkB 11 37 ?_;refine tkB 12 38 ?_;refine tkB 13 39 ?_;refine tkB 14 40 ?_;refine tkA 15 41 (v := ?v15) ?y15 ?_
      case y15 => (intro w' hSw; obtain ⟨q1, q2, q3, q4⟩ := HF.o w' hSw; go_simp; (try with_reducible rfl))
      refine tkB 17 43 ?_;refine tkA 18 44 (v := ?v17) ?y17 ?_
      case y17 => (intro w' hSw; obtain ⟨q1, q2, q3, q4⟩ := HF.o w' hSw; go_simp; (try with_reducible rfl))
      refine tkB 19 45 ?_;refine tkB 20 46 ?_;refine tkB 21 47 ?_;refine tkB 22 48 ?_;refine tkA 23 49 (v := ?v22) ?y22 ?_
      case y22 => (intro w' hSw; obtain ⟨q1, q2, q3, q4⟩ := HF.o w' hSw; go_simp; (try with_reducible rfl))
      try simp only [Act.put, sA, zA, cA]
      refine rdA 8 fun K hK => ?_;go_simp;refine (l4add_any v' L' (d.pat k).s.v B w0 _ HS0.o.vl HS0.o.bl HPT.o.1 HLN1.o HS0.o.lo).mono ?_;rintro e z1 ⟨v1, M1, rfl, hV1, hR1, hK1⟩;have HS1 := iH (HS0.o.step HWE.o HNV.o hwB hV1 hK1);have HE1 : Hd (M1.map SL.b = addV (foldN k (fun i acc => ptV (d.pat i) acc) (L.map SL.b)) (d.pat k).s.v.b) := (show _ = _ by rw [hR1, HE0.o]);clear hV1 hR1 hK1;have HLN2 := iH (show M1.length ≤ 1000000 by have h1 := congrArg List.length HE1.o; rw [List.length_map] at h1; rw [h1]; exact (by have h9 := HLNA.o 1 (.inl rfl); rwa [if_pos rfl] at h9));go_wp2_with fail
      refine rhK hK ⟨HS1.o.bl, HS1.o.bx⟩ fun hHeld => ?_;clear hK K;refine rdA 16 fun K hK => ?_;go_simp;refine (l4add_any v1 M1 (d.pat k).p.v B w0 _ HS1.o.vl HS1.o.bl HPT.o.2.1 HLN2.o HS1.o.lo).mono ?_;rintro e z2 ⟨v2, M2, rfl, hV2, hR2, hK2⟩;have HS2 := iH (HS1.o.step HWE.o HNV.o hwB hV2 hK2);have HE2 : Hd (M2.map SL.b = addV (addV (foldN k (fun i acc => ptV (d.pat i) acc) (L.map SL.b)) (d.pat k).s.v.b) (d.pat k).p.v.b) := (show _ = _ by rw [hR2, HE1.o]);clear hV2 hR2 hK2;have HLN3 := iH (show M2.length ≤ 1000000 by have h1 := congrArg List.length HE2.o; rw [List.length_map] at h1; rw [h1]; exact (by have h9 := HLNA.o 2 (.inr rfl); rwa [if_neg (by decide)] at h9));go_wp2_with fail
      refine rhK hK ⟨HS2.o.bl, HS2.o.bx⟩ fun hHeld => ?_;clear hK K;refine rdA 24 fun K hK => ?_;go_simp;refine (l4add_any v2 M2 (d.pat k).o.v B w0 _ HS2.o.vl HS2.o.bl HPT.o.2.2 HLN3.o HS2.o.lo).mono ?_;rintro e z3 ⟨v3, M3, rfl, hV3, hR3, hK3⟩;have HS3 := iH (HS2.o.step HWE.o HNV.o hwB hV3 hK3);have HE3 : Hd (M3.map SL.b = addV (addV (addV (foldN k (fun i acc => ptV (d.pat i) acc) (L.map SL.b)) (d.pat k).s.v.b) (d.pat k).p.v.b) (d.pat k).o.v.b) := (show _ = _ by rw [hR3, HE2.o]);clear hV3 hR3 hK3;go_wp2_with fail
      refine hK.out _ _ ?_ fun hHeld => ?_
      · exact ⟨HS3.o.bl, HS3.o.bx⟩
      clear hK K;refine tkB 25 0 ?_;refine wpAnyH_done (by kernel_rfl) ?_ _;have HNR : Hd (M3.map SL.b = foldN (k + 1) (fun i acc => ptV (d.pat i) acc) (L.map SL.b)) := HE3;clear hHeld HF HS0 HS1 HS2 HE0 HE1 HE2 HE3 HLN1 HLN2 HLN3 HLNA HBr HXr x1 HSr HRr;go_wp2;go_roundw
      case rel => exact ⟨k + 1, v3, M3, by omega, rfl, by go_num, HS3, HNR⟩
      case measure => simp [intOf]; omega
    obtain rfl : k = d.pn := by omega
    have hlkz : ¬ (d.pn : Int) < (d.pn : Int) := by omega
    go_wp2;go_ret;exact ⟨_, L', rfl, HSr.o.vl, HRr.o.trans HSU.o.symm, Kp.pre HBW.o HSr.o.kp⟩
  clear HPR HPL HLP x1;by_cases h7 : d.k = 7
  · have HSU : Hd (surL (.mk d kid) (L.map SL.b) = addV (L.map SL.b) d.v.b) := (show _ = _ by unfold surL; rw [if_neg h0, if_pos h7])
    have A := l4add_any v L d.v B w0 W HLS.o.vl HLS.o.bl HVX.o (by have := HLA.o; omega) HLS.o.lo;clear HIH HIN HKR HWA HWK x12 HS0 x0;have x0 : W.cell? ⟨w.heap.size, 0, none⟩ = some (.int .i64 7) := by have h := HLS.o.bx.2 0 _ rfl; rw [h7] at h; exact h
    go_wp2_with fail
    refine A.mono ?_;rintro r w5 ⟨v5, L5, rfl, hV5, hR5, hK5⟩;go_wp2;go_ret;exact ⟨v5, L5, rfl, hV5, hR5.trans HSU.o.symm, Kp.pre HBW.o hK5⟩
  have HN1 : Hd (0 < d.n) := by
   show 0 < d.n;have h := HWK.o.1;by_cases h56 : d.k = 5 ∨ d.k = 6
   · have := h.2.2.trans (kidsA_one h56); omega
   have := h.2.2.trans (kidsA_two (by omega)); omega
  obtain ⟨b, off, eK, _, hbk, hck⟩ := HKR.o.resolve_left (by have := HN1.o; omega);have HF : Hd (∀ w', (Bl w0 w' ∧ Box w' w.heap.size d.cl) → w'.cell? ⟨w.heap.size, 12, none⟩ = some (.slice (some ⟨b, off, none⟩) d.n d.kc) ∧ ∀ i, i < d.n → w'.rangeAt b (off + i * 13) (kid i).d.cells) := fun w' hw' => ⟨by rw [← eK]; exact hw'.2.2 12 _ rfl, fun i hi c u hu => (hw'.1.cell (p := ⟨b, off + i * 13 + c, none⟩) hbk).trans (hck i hi c u hu)⟩
  rw [eK] at x12;clear eK hck HVX x10;by_cases h1 : d.k = 1
  · have hn2 := HWK.o.1.2.2.trans (kidsA_two (.inl h1))
    have HSU : Hd (surL (.mk d kid) (L.map SL.b) = surL (kid 1) (surL (kid 0) (L.map SL.b))) := (show (if d.k = 0 then _ else if d.k = 7 then _ else if d.k = 1 then _ else _) = _ by rw [if_neg h0, if_neg h7, if_pos h1]);have HLK : Hd ((surL (kid 0) (L.map SL.b)).length + ac (kid 1) ≤ 1000000) := by
     have q1 := surL_len (l := L.map SL.b) (HWK.o.2 0 (by omega));have q2 := HLA.o;have q3 : sumN d.n (fun i => ac (kid i)) = ac (kid 0) + ac (kid 1) := by rw [hn2]; exact sum_two
     rw [List.length_map] at q1;show _ ≤ 1000000;omega
    have HLN0 : Hd (L.length + ac (kid 0) ≤ 1000000) := by
     have q2 := HLA.o;have q3 : sumN d.n (fun i => ac (kid i)) = ac (kid 0) + ac (kid 1) := by rw [hn2]; exact sum_two
     show _ ≤ 1000000;omega
    clear HIN HWA x0;have x0 : W.cell? ⟨w.heap.size, 0, none⟩ = some (.int .i64 1) := by have h := HLS.o.bx.2 0 _ rfl; rw [h1] at h; exact h
    have HN2 := iH hn2;clear hn2;go_wp2_with fail
    refine whd (fun w' => Bl w0 w' ∧ Box w' w.heap.size d.cl) ?_ fun hHeld => ?_
    · exact ⟨Below.drew HLS.o.bl, HLS.o.bx.below bdr⟩
    refine tkB 0 59 ?_;refine tkB 1 60 ?_;refine tkA 2 61 (v := ?v26) ?y26 ?_
    case y26 => (intro w' hSw; have q1 := (HF.o w' hSw).1; go_simp; (try with_reducible rfl))
    refine tkA 3 62 (v := ?v27) ?y27 ?_
    case y27 => (intro w' hSw; have hlt : 0 < d.n := (by have := HN2.o; omega); go_simp; (try with_reducible rfl))
    try simp only [Act.put, sA, zA, cA]
    refine takeq (i := 4) 63 (v := .agg (kid 0).d.ar) rfl rfl (by kernel_rfl) (by kernel_rfl) (by kernel_rfl) (fun _ _ _ h => h) (yieldsIf_load_mid (by rfl) 52 _ rfl b off rfl (kid 0).d.cl _ (fun w' hw' => (HF.o w' hw').2 0 (by have := HN2.o; omega)) Tryz.underlying52 rfl (by kernel_rfl)) hHeld ?_;refine tkB 6 65 ?_;refine tkA 7 66 (v := ?v29) ?y29 ?_
    case y29 => (intro w' hSw; have q1 := (HF.o w' hSw).1; go_simp; (try with_reducible rfl))
    refine tkA 8 67 (v := ?v30) ?y30 ?_
    case y30 => (intro w' hSw; have hlt : (1 : Int) < (d.n : Int) := (by have := HN2.o; omega); go_simp; (try with_reducible rfl))
    try simp only [Act.put, sA, zA, cA]
    refine takeq (i := 9) 68 (v := .agg (kid 1).d.ar) rfl rfl (by kernel_rfl) (by kernel_rfl) (by kernel_rfl) (fun _ _ _ h => h) (yieldsIf_load_mid (by rfl) 52 _ rfl b (off + 13) rfl (kid 1).d.cl _ (fun w' hw' => (HF.o w' hw').2 1 (by have := HN2.o; omega)) Tryz.underlying52 rfl (by kernel_rfl)) hHeld ?_;try simp only [Act.put, sA, zA, cA]
    refine rdA 5 fun K hK => ?_;go_simp;refine (HIH.o 0 (by have := HN2.o; omega) v L _ HS0.o.vl HS0.o.bl HLN0.o HS0.o.lo).mono ?_;rintro e z1 ⟨v1, M1, rfl, hV1, hR1, hK1⟩;have HS1 := iH (HS0.o.step HWE.o HNV.o hwB hV1 hK1);have HE1 := iH hR1;have HLN1 : Hd (M1.length + ac (kid 1) ≤ 1000000) := (show _ ≤ 1000000 by have h1 := congrArg List.length HE1.o; rw [List.length_map] at h1; have h2 := HLK.o; omega);clear hV1 hR1 hK1;go_wp2_with fail
    refine rhK hK ⟨HS1.o.bl, HS1.o.bx⟩ fun hHeld => ?_;clear hK K;refine rdA 10 fun K hK => ?_;go_simp;refine (HIH.o 1 (by have := HN2.o; omega) v1 M1 _ HS1.o.vl HS1.o.bl HLN1.o HS1.o.lo).mono ?_;rintro e z2 ⟨v2, M2, rfl, hV2, hR2, hK2⟩;have HS2 := iH (HS1.o.step HWE.o HNV.o hwB hV2 hK2);have HE2 : Hd (M2.map SL.b = surL (kid 1) (surL (kid 0) (L.map SL.b))) := (show _ = _ by rw [hR2, HE1.o]);clear hV2 hR2 hK2;go_wp2_with fail
    refine hK.out _ _ ?_ fun hHeld => ?_
    · exact ⟨HS2.o.bl, HS2.o.bx⟩
    clear hK K;refine tkB 11 0 ?_;refine wpAnyH_done (by kernel_rfl) ?_ _;clear hHeld;go_wp2;go_ret;exact ⟨v2, M2, rfl, HS2.o.vl, HE2.o.trans HSU.o.symm, Kp.pre HBW.o HS2.o.kp⟩
  by_cases h3 : d.k = 3
  · have hn2 := HWK.o.1.2.2.trans (kidsA_two (.inr (.inr (.inl h3))))
    have HSU : Hd (surL (.mk d kid) (L.map SL.b) = (surL (kid 0) []).foldl (fun acc x => if x ∈ surL (kid 1) [] then addV acc x else acc) (L.map SL.b)) := (show (if d.k = 0 then _ else if d.k = 7 then _ else if d.k = 1 then _ else if d.k = 3 then _ else _) = _ by rw [if_neg h0, if_neg h7, if_neg h1, if_pos h3]);have HAC : Hd (L.length + (ac (kid 0) + ac (kid 1)) ≤ 1000000) := by
     have q2 := HLA.o;have q3 : sumN d.n (fun i => ac (kid i)) = ac (kid 0) + ac (kid 1) := by rw [hn2]; exact sum_two
     show _ ≤ 1000000;omega
    have HLX : Hd (∀ k : Nat, (((surL (kid 0) []).take k).foldl (fun acc x => if x ∈ surL (kid 1) [] then addV acc x else acc) (L.map SL.b)).length ≤ 1000000 ∧ (surL (kid 1) []).length ≤ 1000000 ∧ (surL (kid 0) []).length ≤ 1000000) := fun k => by
     have q1 := surL_len (l := []) (HWK.o.2 0 (by omega));have q2 := surL_len (l := []) (HWK.o.2 1 (by omega));have q3 := both_len (m := surL (kid 1) []) ((surL (kid 0) []).take k) (l := L.map SL.b);have q4 := HAC.o;have q5 : ((surL (kid 0) []).take k).length ≤ (surL (kid 0) []).length := by rw [List.length_take]; omega
     rw [List.length_map] at q3;simp only [List.length_nil] at q1 q2;exact ⟨by omega, by omega, by omega⟩
    have A0 := HIN.o 0 (by omega) W HLS.o.bl (by have := HAC.o; omega) HLS.o.bl.size;have A1 := fun (w1 : World) (hb : Bl w0 w1) => HIN.o 1 (by omega) w1 hb (by have := HAC.o; omega) hb.size;have hcx : W.rangeAt b off (kid 0).d.cells := (HF.o W ⟨HLS.o.bl, HLS.o.bx⟩).2 0 (by omega);have hlt0 : 0 < d.n := by omega
    have hlt1 : (1 : Int) < (d.n : Int) := by omega
    have HC1 : Hd (∀ w', LS w0 w W B v v L d.cl w' → w'.cell? ⟨w.heap.size, 12, none⟩ = some (.slice (some ⟨b, off, none⟩) d.n d.kc) ∧ w'.rangeAt b (off + 13) (kid 1).d.cells) := fun w' h => ⟨(HF.o w' ⟨h.bl, h.bx⟩).1, (HF.o w' ⟨h.bl, h.bx⟩).2 1 (by omega)⟩;clear HIN HIH HKR HS0 HWK HLA HWA hn2 HF x0;have x0 : W.cell? ⟨w.heap.size, 0, none⟩ = some (.int .i64 3) := by have h := HLS.o.bx.2 0 _ rfl; rw [h3] at h; exact h
    go_wp2_with (refine wpList_load_mid rfl 52 _ rfl b off rfl (kid 0).d.cl _ hcx Tryz.underlying52 rfl (by kernel_rfl) ?_; try simp only [Act.put, sA, zA, cA])
    refine A0.mono ?_;rintro r w1 ⟨vx, X, rfl, hVX, hRX, hKX⟩;have hb1 := hKX.low (fun g hg => by cases hg) nR;have HS1 := iH (HLS.o.below hb1);have HX1 := iH hVX;have HRX := iH hRX;have A2 := A1 w1 HS1.o.bl;obtain ⟨y12, hcx⟩ := HC1.o w1 HS1.o;clear A0 A1 hVX hRX hKX x0 x12 HC1;go_wp2_with (refine wpList_load_mid rfl 52 _ rfl b (off + 13) rfl (kid 1).d.cl _ hcx Tryz.underlying52 rfl (by kernel_rfl) ?_; try simp only [Act.put, sA, zA, cA])
    refine A2.mono ?_;rintro r w2 ⟨vy, Y, rfl, hVY, hRY, hKY⟩;have hb2 := hKY.low (fun g hg => by cases hg) nR;have HS2 := iH (HS1.o.below hb2);have HX2 := iH (HX1.o.below hb2);have HY2 := iH (hVY.lower hb1.size);have HRY := iH hRY;have HBW2 := iH (Nat.le_trans hb1.size hb2.size);have HVW := iH (fun g (hg : v.ownBlock = some g) => (HLS.o.vl.lo g hg).2);obtain ⟨ax, cx, rfl, hfx⟩ := HX2.o.form;have HFX := iH hfx;obtain ⟨nx, hnx⟩ : ∃ nx, nx = X.length := ⟨_, rfl⟩;have HNX := iH hnx;rw [← hnx];have hnb : nx ≤ 1000000 := by rw [HNX.o]; have h := (HLX.o 0).2.2; rw [← HRX.o, List.length_map] at h; exact h
    clear A2 hVY hRY hKY y12 hcx hb1 hb2 hfx HS1 HX1 hnx;go_wp2_with fail
    go_loopw [0, 8] (fun lv i wr => ∃ (k : Nat) (v' : Value) (L' : List SL), k ≤ nx ∧ v' = lv ∧ i = .int .i64 k ∧ Hd (LS w0 w W B v v' L' [.int .i64 d.k, .slice d.pa d.pn d.pc, .int .i64 d.e.d.k, .int .i64 d.e.d.op, .slice d.e.d.v.a d.e.d.v.len d.e.d.v.cap, .int .i64 d.e.d.t.t.k, .slice d.e.d.t.t.a d.e.d.t.t.len d.e.d.t.t.cap, .int .i64 d.e.d.t.t.n, .int .i64 d.e.d.t.t.s, .slice d.e.d.ka d.e.d.n d.e.d.kc, .slice d.v.a d.v.len d.v.cap, .slice d.ta d.tb.length d.tc, .slice d.ka d.n d.kc] wr) ∧ Hd ((∀ g, v'.ownBlock = some g → g < W.heap.size ∨ w2.heap.size ≤ g) ∧ (∀ g, W.heap.size ≤ g → g < w2.heap.size → wr.heap[g]? = w2.heap[g]?) ∧ w2.heap.size ≤ wr.heap.size) ∧ Hd (L'.map SL.b = ((surL (kid 0) []).take k).foldl (fun acc x => if x ∈ surL (kid 1) [] then addV acc x else acc) (L.map SL.b))) (fun _ i _ => nx - (intOf i).toNat)
    case atStart => exact ⟨0, v, L, nZ, rfl, rfl, HS2, ⟨fun g hg => .inl (HVW.o g hg), fun _ _ _ => rfl, nR⟩, (show L.map SL.b = L.map SL.b from rfl)⟩
    obtain ⟨k, v', L', hk, rfl, rfl, HSr, HOr, HRr⟩ := hrel;by_cases hlk : k < nx
    · have hlkz : (k : Int) < (nx : Int) := by omega
      have hkx : k < X.length := by rw [← HNX.o]; exact hlk
      obtain ⟨g, rfl, hg1, hg2, hgc⟩ := HFX.o.resolve_left (fun h => by rw [h] at hkx; simp at hkx);obtain ⟨x, hx⟩ : ∃ x, X[k]? = some x := ⟨X[k], List.getElem?_eq_getElem hkx⟩;have HXT := iH (HX2.o.txt x (List.mem_of_getElem? hx));have cx1 := (World.cell?_of_block (w := w2) (a := ⟨g, k, none⟩) (HOr.o.2.1 g hg1 hg2)).trans (hgc k x hx);have HTK : Hd (((surL (kid 0) []).take (k + 1)).foldl (fun acc x => if x ∈ surL (kid 1) [] then addV acc x else acc) (L.map SL.b) = if x.b ∈ surL (kid 1) [] then addV (((surL (kid 0) []).take k).foldl (fun acc x => if x ∈ surL (kid 1) [] then addV acc x else acc) (L.map SL.b)) x.b else ((surL (kid 0) []).take k).foldl (fun acc x => if x ∈ surL (kid 1) [] then addV acc x else acc) (L.map SL.b)) := by
       have e : (surL (kid 0) [])[k]? = some x.b := by rw [← HRX.o, List.getElem?_map, hx]; rfl
       show _ = _;rw [List.take_add_one, e, List.foldl_append];rfl
      have A := l4has_any vy Y x W.heap.size w0 wr (HY2.o.keep HOr.o.2.2 fun c hc => HOr.o.2.1 c (HY2.o.lo c hc).1 (HY2.o.lo c hc).2) HSr.o.bl HXT.o (by have h := (HLX.o 0).2.1; rw [← HRY.o, List.length_map] at h; omega);have HCX := iH (hgc k x hx);clear hgc hx;go_wp2_with fail
      refine A.mono ?_;rintro e z1 ⟨q, rfl, hq, hz⟩;have HS1 := iH (HSr.o.below hz);have HO1 : Hd ((∀ g, v'.ownBlock = some g → g < W.heap.size ∨ w2.heap.size ≤ g) ∧ (∀ g, W.heap.size ≤ g → g < w2.heap.size → z1.heap[g]? = w2.heap[g]?) ∧ w2.heap.size ≤ z1.heap.size) := ⟨HOr.o.1, fun c h1 h2 => (hz.block c (Nat.lt_of_lt_of_le h2 HOr.o.2.2)).trans (HOr.o.2.1 c h1 h2), Nat.le_trans HOr.o.2.2 hz.size⟩;have HIN : Hd (q = true ↔ x.b ∈ surL (kid 1) []) := (show _ ↔ _ by rw [hq]; unfold InL; rw [HRY.o]);have cz1 := (World.cell?_of_block (w := w2) (a := ⟨g, k, none⟩) (HO1.o.2.1 g hg1 hg2)).trans HCX.o;clear A hq hz cx1;cases q
      · have HNR : Hd (L'.map SL.b = ((surL (kid 0) []).take (k + 1)).foldl (fun acc x => if x ∈ surL (kid 1) [] then addV acc x else acc) (L.map SL.b)) := (show _ = _ by rw [HTK.o, if_neg (fun h => by have := HIN.o.2 h; cases this)]; exact HRr.o)
        go_wp2;go_roundw
        case rel => exact ⟨k + 1, v', L', by omega, rfl, by go_num, HS1, HO1, HNR⟩
        case measure => simp [intOf]; omega
      have HNR0 : Hd (addV (L'.map SL.b) x.b = ((surL (kid 0) []).take (k + 1)).foldl (fun acc x => if x ∈ surL (kid 1) [] then addV acc x else acc) (L.map SL.b)) := (show _ = _ by rw [HTK.o, if_pos (HIN.o.1 rfl), HRr.o]);have Z := l4add_any v' L' x B w0 z1 HS1.o.vl HS1.o.bl HXT.o (by have h := (HLX.o k).1; rw [← HRr.o, List.length_map] at h; exact h) HS1.o.lo;go_wp2_with fail
      refine Z.mono ?_;rintro e z2 ⟨v5, L5, rfl, hV5, hR5, hK5⟩;have HN5 := iH (HS1.o.step HWE.o HNV.o hwB hV5 hK5);have HN2 : Hd ((∀ g, v5.ownBlock = some g → g < W.heap.size ∨ w2.heap.size ≤ g) ∧ (∀ g, W.heap.size ≤ g → g < w2.heap.size → z2.heap[g]? = w2.heap[g]?) ∧ w2.heap.size ≤ z2.heap.size) := ⟨fun c hc => (hK5.blk c hc).elim (HO1.o.1 c) fun h => .inr (Nat.le_trans HO1.o.2.2 h), fun c h1 h2 => (hK5.block c (Nat.lt_of_lt_of_le h2 HO1.o.2.2) (fun hc => by have := HO1.o.1 c hc; omega)).trans (HO1.o.2.1 c h1 h2), Nat.le_trans HO1.o.2.2 hK5.size⟩;have HNR := iH (hR5.trans HNR0.o);clear Z hV5 hR5 hK5 cz1;go_wp2;go_roundw
      case rel => exact ⟨k + 1, v5, L5, by omega, rfl, by go_num, HN5, HN2, HNR⟩
      case measure => simp [intOf]; omega
    obtain rfl : k = nx := by omega
    have hlkz : ¬ (k : Int) < (k : Int) := by omega
    go_wp2;go_ret;exact ⟨_, L', rfl, HSr.o.vl, by rw [HSU.o, HRr.o, List.take_of_length_le (by rw [← HRX.o, List.length_map]; exact Nat.le_of_eq HNX.o.symm)], Kp.pre HBW.o HSr.o.kp⟩
  have hn1 := HN1.o;have HSU : Hd (surL (.mk d kid) (L.map SL.b) = surL (kid 0) (L.map SL.b)) := (show (if d.k = 0 then _ else if d.k = 7 then _ else if d.k = 1 then _ else if d.k = 3 then _ else _) = _ by rw [if_neg h0, if_neg h7, if_neg h1, if_neg h3]);have A := HIH.o 0 hn1 v L W HLS.o.vl HLS.o.bl (by have q1 := HLA.o; have q2 := sumN_le (f := fun i => ac (kid i)) hn1; have q3 : (fun i => ac (kid i)) 0 = ac (kid 0) := rfl; omega) HLS.o.lo;have hcx : W.rangeAt b off (kid 0).d.cells := (HF.o W ⟨HLS.o.bl, HLS.o.bx⟩).2 0 hn1;clear HIN HWA HF HIH HKR HS0;go_wp2_with (refine wpList_load_mid rfl 52 _ rfl b off rfl (kid 0).d.cl _ hcx Tryz.underlying52 rfl (by kernel_rfl) ?_; try simp only [Act.put, sA, zA, cA])
  refine A.mono ?_;rintro r w5 ⟨v5, L5, rfl, hV5, hR5, hK5⟩;clear A;go_wp2;go_ret;exact ⟨v5, L5, rfl, hV5, hR5.trans HSU.o.symm, Kp.pre HBW.o hK5⟩
theorem l7within_any (e : ET) (a : AT) (w : World) (he : e.lies 0 w) (ha : a.lies 0 w) (hwa : WA a) (hn : esz e ≤ 1000000) (hm : ac a ≤ 1000000) :
 Calls Tryz.prog 113 #[.agg e.d.ar, .agg a.d.ar] w (Tells (((eV e []).all fun v => sureB v a) = true) w) := by
 try unfold AN.ar AN.cl
 try unfold EN.ar EN.cl
 suffices hs : ∀ P : Prop, (P ↔ ((eV e []).all fun v => sureB v a) = true) → Calls Tryz.prog 113 #[.agg #[.int .i64 e.d.k, .int .i64 e.d.op, .slice e.d.v.a e.d.v.len e.d.v.cap, .int .i64 e.d.t.t.k, .slice e.d.t.t.a e.d.t.t.len e.d.t.t.cap, .int .i64 e.d.t.t.n, .int .i64 e.d.t.t.s, .slice e.d.ka e.d.n e.d.kc], .agg #[.int .i64 a.d.k, .slice a.d.pa a.d.pn a.d.pc, .int .i64 a.d.e.d.k, .int .i64 a.d.e.d.op, .slice a.d.e.d.v.a a.d.e.d.v.len a.d.e.d.v.cap, .int .i64 a.d.e.d.t.t.k, .slice a.d.e.d.t.t.a a.d.e.d.t.t.len a.d.e.d.t.t.cap, .int .i64 a.d.e.d.t.t.n, .int .i64 a.d.e.d.t.t.s, .slice a.d.e.d.ka a.d.e.d.n a.d.e.d.kc, .slice a.d.v.a a.d.v.len a.d.v.cap, .slice a.d.ta a.d.tb.length a.d.tc, .slice a.d.ka a.d.n a.d.kc]] w (Tells P w) from hs _ Iff.rfl
 intro P hpe;have HPE := iH hpe;clear hpe;have HEL : Hd (e.lies 0 w ∧ a.lies 0 w ∧ WA a ∧ esz e ≤ 1000000 ∧ ac a ≤ 1000000) := ⟨he, ha, hwa, hn, hm⟩;clear he ha hwa hn hm;go_in;go_upto_region 1 with fail
 obtain ⟨W1, hW1⟩ : ∃ W1, W1 = (w.alloc (.cells e.d.ar 42)).alloc (.cells a.d.ar 52) := ⟨_, rfl⟩;have HX : Hd (Box W1 w.heap.size e.d.cl) := (show Box _ _ _ by rw [hW1]; exact (Box.new w _ 42 _).below (bl_a _));have HA : Hd (Box W1 (w.heap.size + 1) a.d.cl) := (show Box _ _ _ by rw [hW1, show w.heap.size + 1 = (w.alloc _).heap.size by simp]; exact Box.new _ _ _ _);have HB : Hd (Bl w W1) := (show Below _ _ _ by rw [hW1]; exact bl_alloc (bl_a _) _);rw [← hW1];clear hW1;have A1 := l4exprVars_any e (.slice none 0 0) [] W1.heap.size w W1 HEL.o.1 (VL.nil _ _ _) HB.o (by simpa using HEL.o.2.2.2.1) nR HB.o.size;have lr : W1.rangeAt w.heap.size 0 e.d.cl := HX.o.range 0 _ rfl;go_wp2_with (refine ldn Tryz.underlying42 lr ?_)
 refine A1.mono ?_;rintro r w1 ⟨vx, X, rfl, hVX, hRX, hKX⟩;have hb1 := hKX.low (fun g hg => by cases hg) nR;have HB1 := iH (HB.o.trans (hb1.mono HB.o.size));have HX1 := iH hVX;have HRX : Hd (X.map SL.b = eV e []) := hRX;have A2 := l7sure_any a (.slice none 0 0) [] w1.heap.size w w1 HEL.o.2.2.1 HEL.o.2.1 (VL.nil _ _ _) HB1.o (by simpa using HEL.o.2.2.2.2) nR HB1.o.size;have lr2 : w1.rangeAt (w.heap.size + 1) 0 a.d.cl := (HA.o.below hb1).range 0 _ rfl;clear A1 hVX hRX hKX lr hb1;go_wp2_with (refine ldn Tryz.underlying52 lr2 ?_)
 refine A2.mono ?_;rintro r w2 ⟨vy, Y, rfl, hVY, hRY, hKY⟩;have hb2 := hKY.low (fun g hg => by cases hg) nR;have HB2 := iH (HB1.o.trans (hb2.mono HB1.o.size));have HX2 := iH (HX1.o.below hb2);have HY2 := iH hVY;have HRY : Hd (Y.map SL.b = surL a []) := hRY;have HP : Hd (P ↔ ∀ (j : Nat) (x : SL), X[j]? = some x → InL x.b Y) := by
  show _ ↔ _;rw [HPE.o, List.all_eq_true, ← HRX.o];constructor
  · intro h j x hx
    unfold InL;rw [HRY.o];exact mem_surL.2 (.inr (h x.b (List.mem_map_of_mem (List.mem_of_getElem? hx))))
  intro h v hv;obtain ⟨x, hx, rfl⟩ := List.mem_map.1 hv;obtain ⟨j, hj⟩ := List.mem_iff_getElem?.1 hx;have h2 := h j x hj;unfold InL at h2;rw [HRY.o] at h2;exact (mem_surL.1 h2).resolve_left (by simp)
 have HLY : Hd (Y.length ≤ 1000000 ∧ X.length ≤ 1000000) := by
  have q1 := surL_len (l := []) HEL.o.2.2.1;have q2 := eV_len e [];have q3 := HEL.o.2.2.2;rw [← HRY.o, List.length_map] at q1;rw [← HRX.o, List.length_map] at q2;simp only [List.length_nil] at q1 q2;exact ⟨by omega, by omega⟩
 obtain ⟨ax, cx, rfl, hfx⟩ := HX2.o.form;have HFX := iH hfx;obtain ⟨nx, hnx⟩ : ∃ nx, nx = X.length := ⟨_, rfl⟩;have HNX := iH hnx;rw [← hnx];have hnb : nx ≤ 1000000 := by rw [hnx]; exact HLY.o.2
 clear A2 hVY hRY hKY hb2 hfx hnx lr2;go_wp2_with fail
 go_loopw [7] (fun i wr => ∃ k : Nat, k ≤ nx ∧ i = .int .i64 k ∧ Hd (Bl w2 wr) ∧ Hd (∀ (j : Nat) (x : SL), j < k → X[j]? = some x → InL x.b Y)) (fun i _ => nx - (intOf i).toNat)
 case atStart => exact ⟨0, nZ, rfl, Below.refl _ _, fun j x hj => absurd hj nN⟩
 obtain ⟨k, hk, rfl, HBr, HIr⟩ := hrel;by_cases hlk : k < nx
 · have hlkz : (k : Int) < (nx : Int) := by omega
   have hkx : k < X.length := by rw [← HNX.o]; exact hlk
   obtain ⟨g, rfl, hg1, hg2, hgc⟩ := HFX.o.resolve_left (fun h => by rw [h] at hkx; simp at hkx);obtain ⟨x, hx⟩ : ∃ x, X[k]? = some x := ⟨X[k], List.getElem?_eq_getElem hkx⟩;have HXX := iH hx;have HXT := iH (HX2.o.txt x (List.mem_of_getElem? hx));have cx1 := (HBr.o.cell (p := ⟨g, k, none⟩) hg2).trans (hgc k x hx);have A := l4has_any vy Y x w1.heap.size w wr (HY2.o.below HBr.o) (HB2.o.trans (HBr.o.mono HB2.o.size)) HXT.o (by have h := HLY.o.1; omega);clear hgc hx;go_wp2_with fail
   refine A.mono ?_;rintro e z1 ⟨q, rfl, hq, hz⟩;have HBz := iH (HBr.o.trans (hz.mono HBr.o.size));have HQ := iH hq;clear A hq hz cx1;cases q
   · go_wp2
     go_ret;refine Tells.no (fun h => ?_) (HB2.o.trans (HBz.o.mono HB2.o.size));have := HQ.o.2 (HP.o.1 h k x HXX.o);cases this
   have HN : Hd (∀ (j : Nat) (y : SL), j < k + 1 → X[j]? = some y → InL y.b Y) := fun j y hj hy => by
    by_cases e : j = k
    · subst e
      have := HXX.o.symm.trans hy;cases this;exact HQ.o.1 rfl
    exact HIr.o j y (by omega) hy
   go_wp2;go_roundw
   case rel => exact ⟨k + 1, by omega, by go_num, HBz, HN⟩
   case measure => simp [intOf]; omega
 obtain rfl : k = nx := by omega
 have hlkz : ¬ (k : Int) < (k : Int) := by omega
 go_wp2;go_ret;refine Tells.yes (HP.o.2 fun j x hx => HIr.o j x ?_ hx) (HB2.o.trans (HBr.o.mono HB2.o.size));rw [HNX.o];exact (List.getElem?_eq_some_iff.1 hx).1
def FA (N : Nat) : AT → Prop
 | .nil => False
 | .mk d kid => (d.k = 5 → esz d.e ≤ N ∧ FA N (kid 0) ∧ ((kid 0).d.k = 5 ∨ ac (kid 0) ≤ N)) ∧ (d.k ≠ 5 → ∀ i, i < d.n → FA N (kid i))
theorem FA.of {a : AT} : WA a → ac a ≤ N → FA N a := by
 induction a with
 | nil => exact fun h _ => False.elim h
 | mk d kid ih =>
  intro hw hn;obtain ⟨⟨w0, w7, wn⟩, _, _, _, wk⟩ := hw;have hac : ac (.mk d kid) = 3 * d.pn + esz d.e + 1 + sumN d.n (fun i => ac (kid i)) := rfl;have hk : ∀ i, i < d.n → ac (kid i) ≤ N := fun i hi => by
   have h2 := sumN_le (f := fun i => ac (kid i)) hi;have h3 : (fun i => ac (kid i)) i = ac (kid i) := rfl;omega
  refine ⟨fun h5 => ?_, fun _ i hi => ih i (wk i hi) (hk i hi)⟩;have hn1 := wn.trans (kidsA_one (.inl h5));exact ⟨by omega, ih 0 (wk 0 (by omega)) (hk 0 (by omega)), .inr (hk 0 (by omega))⟩
theorem FA.filter {a : AT} (he : esz e ≤ N) (ha : FA N a) (hs : a.d.k = 5 ∨ ac a ≤ N) : FA N (filterA e a) :=
 ⟨fun _ => ⟨he, ha, hs⟩, fun h => absurd rfl h⟩
theorem growsFirst_any (a : AT) (w : World) : Calls Tryz.prog 146 #[.agg a.d.ar] w (Tells (a.d.k = 1 ∨ a.d.k = 2 ∨ a.d.k = 4) w) := by
 suffices hs : ∀ P : Prop, (P ↔ (a.d.k = 1 ∨ a.d.k = 2 ∨ a.d.k = 4)) → Calls Tryz.prog 146 #[.agg #[.int .i64 a.d.k, .slice a.d.pa a.d.pn a.d.pc, .int .i64 a.d.e.d.k, .int .i64 a.d.e.d.op, .slice a.d.e.d.v.a a.d.e.d.v.len a.d.e.d.v.cap, .int .i64 a.d.e.d.t.t.k, .slice a.d.e.d.t.t.a a.d.e.d.t.t.len a.d.e.d.t.t.cap, .int .i64 a.d.e.d.t.t.n, .int .i64 a.d.e.d.t.t.s, .slice a.d.e.d.ka a.d.e.d.n a.d.e.d.kc, .slice a.d.v.a a.d.v.len a.d.v.cap, .slice a.d.ta a.d.tb.length a.d.tc, .slice a.d.ka a.d.n a.d.kc]] w (Tells P w) from hs _ Iff.rfl
 intro P hpe;have HPE := iH hpe;clear hpe;by_cases h1 : a.d.k = 1
 · have HY := iH (HPE.o.2 (.inl h1))
   go_in;go_wp2;go_ret;exact Tells.yes HY.o (by first | exact bl_a _ | exact Below.refl _ _ | exact Below.drew (bl_a _) | exact Below.drew brf)
 by_cases h2 : a.d.k = 2
 · have HY := iH (HPE.o.2 (.inr (.inl h2)))
   go_in;go_wp2;go_ret;exact Tells.yes HY.o (by first | exact bl_a _ | exact Below.refl _ _ | exact Below.drew (bl_a _) | exact Below.drew brf)
 by_cases h4 : a.d.k = 4
 · have HY := iH (HPE.o.2 (.inr (.inr h4)))
   go_in;go_wp2;go_ret;exact Tells.yes HY.o (by first | exact bl_a _ | exact Below.refl _ _ | exact Below.drew (bl_a _) | exact Below.drew brf)
 have HY : Hd (¬ P) := fun h => by have := HPE.o.1 h; omega
 go_in;go_wp2;go_ret;refine Tells.of (b := _) ⟨fun h => ?_, fun h => absurd h HY.o⟩ (by first | exact bl_a _ | exact Below.refl _ _);simp [h4] at h;omega
def PT.hang (w0 w : World) : PT → Prop
 | .nil => False
 | .mk d kid => d.p.lies 0 w0 ∧ d.e.lies 0 w0 ∧ BsF 0 w0 d.v ∧ TRowF 0 w0 d.ta d.tb ∧ d.tb.length ≤ 1048576 ∧ d.n ≤ 1048576 ∧ KRow w0.heap.size w 28 d.ka d.n (fun i => (kid i).d.cells) ∧ ∀ i, i < d.n → (kid i).hang w0 w
def PT.fr : PT → List Nat
 | .nil => []
 | .mk d kid => rfp d.ka d.n ++ catB (fun i => (kid i).fr) d.n
theorem PT.hang.lies (hb : Bl w0 w) {e : PT} (h : e.hang w0 w) : e.lies 0 w := by
 induction e with
 | nil => exact False.elim h
 | mk d kid ih =>
  obtain ⟨h1, h2, h3, h4, h5, h6, h7, h8⟩ := h;exact ⟨h1.upper (uB hb), ET.lies.upper (uB hb) h2, h3.upper (uB hb), h4.upper (uB hb), h5, h6, h7.base nZ, fun i hi => ih i (h8 i hi)⟩
theorem PT.hang.keep {e : PT} (h : e.hang w0 w) (hk : Stay e.fr w w') : e.hang w0 w' := by
 induction e with
 | nil => exact False.elim h
 | mk d kid ih =>
  obtain ⟨h1, h2, h3, h4, h5, h6, h7, h8⟩ := h;exact ⟨h1, h2, h3, h4, h5, h6, krow_keep h7 hk.left, fun i hi => ih i (h8 i hi) (hk.right.kid hi)⟩
theorem okPG (w0 : World) (x : PT) (w w' : World) (h : x.hang w0 w) (k : Stay x.fr w w') : x.hang w0 w' := h.keep k
theorem Stay.past {L : List Nat} (hp : Past g w w') (hL : ∀ q ∈ L, q < w.heap.size ∧ q ≠ g) : Stay L w w' := ⟨fun q hq => hp.block q (hL q hq).1 (hL q hq).2, hp.size⟩
theorem OB.pastP {b : Nat} {L : List Value} (h : OB w b L) (hp : Past g w w') (hne : b ≠ g) : OB w' b L := ⟨Nat.lt_of_lt_of_le h.1 hp.size, fun c u hu => ⟨(hp.cell (p := ⟨b, c, none⟩) h.1 hne).trans (h.2 c u hu).1, (hp.frozen (p := ⟨b, c, none⟩) h.1 hne).trans (h.2 c u hu).2⟩⟩
def KRowN (g : Nat) (w : World) (sz : Nat) (a : Option Addr) (n : Nat) (C : Nat → List Value) : Prop :=
 n = 0 ∨ ∃ b off, a = some ⟨b, off, none⟩ ∧ b ≠ g ∧ b < w.heap.size ∧ ∀ i, i < n → ∀ c u, (C i)[c]? = some u → w.cell? ⟨b, off + i * sz + c, none⟩ = some u
theorem KRowN.past {C : Nat → List Value} (h : KRowN g w sz a n C) (hp : Past g w w') : KRowN g w' sz a n C :=
 h.imp id fun ⟨b, off, ha, hg, hlt, hc⟩ => ⟨b, off, ha, hg, Nat.lt_of_lt_of_le hlt hp.size, fun i hi c u hu => (hp.cell (p := ⟨b, off + i * sz + c, none⟩) hlt hg).trans (hc i hi c u hu)⟩
theorem KRowN.row {C : Nat → List Value} (h : KRowN g w sz a n C) : KRow 0 w sz a n C :=
 h.imp id fun ⟨b, off, ha, _, hlt, hc⟩ => ⟨b, off, ha, nZ, hlt, hc⟩
def AT.hung (w0 : World) (g : Nat) (w : World) : AT → Prop
 | .nil => False
 | .mk d kid => KRow 0 w0 15 d.pa d.pn (fun i => (d.pat i).cells) ∧ (∀ i, i < d.pn → (d.pat i).lies 0 w0) ∧ d.pn ≤ 1048576 ∧ d.e.lies 0 w0 ∧ BsF 0 w0 d.v ∧ TRowF 0 w0 d.ta d.tb ∧ d.tb.length ≤ 1048576 ∧ d.n ≤ 1048576 ∧ KRowN g w 13 d.ka d.n (fun i => (kid i).d.cells) ∧ ∀ i, i < d.n → (kid i).hung w0 g w
theorem AT.lies.hung {e : AT} (h : e.lies 0 w0) (hb : Bl w0 w) (hg : w0.heap.size ≤ g) : e.hung w0 g w := by
 induction e with
 | nil => exact False.elim h
 | mk d kid ih =>
  obtain ⟨h1, h2, h3, h4, h5, h6, h7, h8, h9, h10⟩ := h;refine ⟨h1, h2, h3, h4, h5, h6, h7, h8, ?_, fun i hi => ih i (h10 i hi)⟩;exact h9.imp id fun ⟨b, off, ha, _, hlt, hc⟩ => ⟨b, off, ha, by omega, Nat.lt_of_lt_of_le hlt hb.size, fun i hi c u hu => (hb.cell (p := ⟨b, off + i * 13 + c, none⟩) hlt).trans (hc i hi c u hu)⟩
theorem AT.hung.past {e : AT} (h : e.hung w0 g w) (hp : Past g w w') : e.hung w0 g w' := by
 induction e with
 | nil => exact False.elim h
 | mk d kid ih =>
  obtain ⟨h1, h2, h3, h4, h5, h6, h7, h8, h9, h10⟩ := h;exact ⟨h1, h2, h3, h4, h5, h6, h7, h8, h9.past hp, fun i hi => ih i (h10 i hi)⟩
theorem AT.hung.lies (hb : Bl w0 w) {e : AT} (h : e.hung w0 g w) : e.lies 0 w := by
 induction e with
 | nil => exact False.elim h
 | mk d kid ih =>
  obtain ⟨h1, h2, h3, h4, h5, h6, h7, h8, h9, h10⟩ := h;have hu : Upper 0 w0 w := Upper.of_below hb;exact ⟨h1.upper hu, fun i hi => (h2 i hi).upper hu, h3, ET.lies.upper hu h4, h5.upper hu, h6.upper hu, h7, h8, h9.row, fun i hi => ih i (h10 i hi)⟩
def PT1 (k o : Int) (x : PB) (e : ET) (q : Nat) (y : PT) : PT := .mk ⟨k, o, x, e, SL0, none, 0, [], some ⟨q, 0, none⟩, 1, 1⟩ (fun _ => y)
def PT2 (k : Int) (q : Nat) (y z : PT) : PT := .mk ⟨k, 0, PBz, ET0, SL0, none, 0, [], some ⟨q, 0, none⟩, 2, 2⟩ (fun i => if i = 0 then y else z)
theorem PBz.lies (B : Nat) (w : World) : PBz.lies B w := by
 have h : IB.lies B w ⟨SL0, ⟨⟨0, none, 0, 0, 0, 0⟩, []⟩⟩ := ⟨(SL0_own B w).1, (SL0_own B w).1, ⟨by decide, by decide, by decide, by decide⟩⟩
 exact ⟨h, h, h⟩
theorem unitP.hang (w0 w : World) : unitP.hang w0 w := ⟨PBz.lies _ _, (ET0_ow 0 w0).l, (SL0_own 0 w0).1, TRow0 _ _, nZ, nZ, .inl rfl, fun _ hi => absurd hi nN⟩
theorem PT1.hang (hy : y.hang w0 w) (hx : x.lies 0 w0) (he : e.lies 0 w0) (hb : Box w q y.d.cells) (hq : w0.heap.size ≤ q) : (PT1 k o x e q y).hang w0 w :=
 ⟨hx, he, (SL0_own 0 w0).1, TRow0 _ _, nZ, (by show 1 ≤ 1048576; omega), .inr ⟨q, 0, rfl, hq, hb.1, fun i hi c u hu => by
  obtain rfl : i = 0 := (by have : i < 1 := hi; omega)
  simpa using hb.2 c u hu⟩, fun _ _ => hy⟩
theorem PT1.cp (hy : Cp lo hi y.fr) (hn : ∀ b ∈ y.fr, b ≠ q) (h1 : lo ≤ q) (h2 : q < hi) : Cp lo hi (PT1 k o x e q y).fr := by
 show Cp lo hi ([q] ++ ([] ++ y.fr));rw [List.nil_append, List.singleton_append];refine ⟨List.nodup_cons.2 ⟨fun h => hn q h rfl, hy.nd⟩, fun b hb => ?_⟩;rcases List.mem_cons.1 hb with h | h
 · rw [h]; exact ⟨h1, h2⟩
 exact hy.i b h
theorem PT2.hang (hy : y.hang w0 w) (hz : z.hang w0 w) (hb : Box w q (y.d.cells ++ z.d.cells)) (hq : w0.heap.size ≤ q) : (PT2 k q y z).hang w0 w := by
 refine ⟨PBz.lies _ _, (ET0_ow 0 w0).l, (SL0_own 0 w0).1, TRow0 _ _, nZ, (by show 2 ≤ 1048576; omega), .inr ⟨q, 0, rfl, hq, hb.1, fun i hi c u hu => ?_⟩, fun i hi => ?_⟩
 · have hi2 : i = 0 ∨ i = 1 := by have : i < 2 := hi; omega
   have ec := (List.getElem?_eq_some_iff.1 hu).1;rcases hi2 with rfl | rfl
   · have ec2 : c < 28 := ec
     have h := hb.2 c u (by rw [List.getElem?_append_left (by rw [PN.cells_len]; exact ec2)]; exact hu);simpa using h
   have h := hb.2 (28 + c) u (by rw [List.getElem?_append_right (by rw [PN.cells_len]; omega), PN.cells_len, Nat.add_sub_cancel_left]; exact hu);simpa using h
 show PT.hang w0 w (if i = 0 then y else z);split
 · exact hy
 exact hz
theorem PT2.cp (h : Cp lo hi (y.fr ++ z.fr)) (hn : ∀ b ∈ y.fr ++ z.fr, b ≠ q) (h1 : lo ≤ q) (h2 : q < hi) : Cp lo hi (PT2 k q y z).fr := by
 show Cp lo hi ([q] ++ (([] ++ y.fr) ++ z.fr));rw [List.nil_append, List.singleton_append];refine ⟨List.nodup_cons.2 ⟨fun h => hn q h rfl, h.nd⟩, fun b hb => ?_⟩;rcases List.mem_cons.1 hb with e | e
 · rw [e]; exact ⟨h1, h2⟩
 exact h.i b e
theorem PT1.same (h : y.same z) : (PT1 0 o x ET0 q y).same (nestP o x z) := ⟨rfl, rfl, ⟨⟨rfl, rfl⟩, ⟨rfl, rfl⟩, ⟨rfl, rfl⟩⟩, ET0.refl, rfl, rfl, rfl, fun _ _ => h⟩
theorem PT1.sameF {x : ET} (hx : x.same x) (h : y.same z) : (PT1 5 0 PBz x q y).same (filterP x z) := ⟨rfl, rfl, PBz.refl, hx, rfl, rfl, rfl, fun _ _ => h⟩
theorem PT2.same {y' z' : PT} (hy : y.same y') (hz : z.same z') : (PT2 1 q y z).same (hashP y' z') := ⟨rfl, rfl, PBz.refl, ET0.refl, rfl, rfl, rfl, fun i hi => by
 show PT.same (if i = 0 then y else z) (if i = 0 then y' else z')
 split
 · exact hy
 exact hz⟩
def flatP (l : List PB) : List Value := l.flatMap PB.cells
theorem flatP_len (l : List PB) : (flatP l).length = l.length * 15 := by
 induction l with
 | nil => rfl
 | cons x l ih =>
  show (x.cells ++ flatP l).length = _;rw [List.length_append, PB.cells_len, ih, List.length_cons];omega
theorem flatP_app (l l' : List PB) : flatP (l ++ l') = flatP l ++ flatP l' := by unfold flatP; exact List.flatMap_append
theorem flatP_get {c : Nat} (hx : l[i]? = some x) (hc : c < 15) : (flatP l)[i * 15 + c]? = x.cells[c]? := by
 have hi := (List.getElem?_eq_some_iff.1 hx).1;have e : l = l.take i ++ (x :: l.drop (i + 1)) := by
  have h := List.take_append_drop i l;rw [List.drop_eq_getElem_cons hi] at h;rw [List.getElem?_eq_getElem hi] at hx;cases hx;exact h.symm
 rw [e, flatP_app];have hl : (flatP (l.take i)).length = i * 15 := by rw [flatP_len, List.length_take, Nat.min_eq_left (by omega)]
 rw [List.getElem?_append_right (by omega), hl, Nat.add_sub_cancel_left];show (x.cells ++ flatP _)[c]? = _;rw [List.getElem?_append_left (by rw [PB.cells_len]; exact hc)]
theorem flatP_one {u : Value} (h : u ∈ flatP l) : u.oneCell' = true := by
 obtain ⟨x, _, hu⟩ := List.mem_flatMap.1 h;unfold PB.cells at hu;simp only [List.mem_cons, List.not_mem_nil, or_false] at hu;rcases hu with rfl | rfl | rfl | rfl | rfl | rfl | rfl | rfl | rfl | rfl | rfl | rfl | rfl | rfl | rfl <;> rfl
def PRow (M : Nat) (w : World) (a : Option Addr) (l : List PB) : Prop := l = [] ∨ ∃ b off, a = some ⟨b, off, none⟩ ∧ M ≤ b ∧ b < w.heap.size ∧ ∀ j u, (flatP l)[j]? = some u → w.cell? ⟨b, off + j, none⟩ = some u
theorem PRow.past (h : PRow M w a l) (hp : Past g w w') (hg : g < M) : PRow M w' a l :=
 h.imp id fun ⟨b, off, ha, hM, hlt, hc⟩ => ⟨b, off, ha, hM, Nat.lt_of_lt_of_le hlt hp.size, fun j u hu => (hp.cell (p := ⟨b, off + j, none⟩) hlt (by show b ≠ g; omega)).trans (hc j u hu)⟩
theorem PRow.but (h : PRow M w a l) (hp : But g w w') (hg : g < M) : PRow M w' a l :=
 h.imp id fun ⟨b, off, ha, hM, hlt, hc⟩ => ⟨b, off, ha, hM, by rw [hp.size]; exact hlt, fun j u hu => (hp.cell (p := ⟨b, off + j, none⟩) (by show b ≠ g; omega)).trans (hc j u hu)⟩
theorem PRow.base (h : PRow M w a l) (hN : N ≤ M) : PRow N w a l := h.imp id fun ⟨b, off, ha, hM, r⟩ => ⟨b, off, ha, Nat.le_trans hN hM, r⟩
theorem PRow.at (h : PRow M w a l) (hx : l[i]? = some x) : ∃ b off, a = some ⟨b, off, none⟩ ∧ M ≤ b ∧ b < w.heap.size ∧ w.rangeAt b (off + i * 15) x.cells := by
 have hne : l ≠ [] := fun e => by rw [e] at hx; simp at hx
 obtain ⟨b, off, ha, hM, hlt, hc⟩ := h.resolve_left hne;refine ⟨b, off, ha, hM, hlt, fun c u hu => ?_⟩;have h15 := (List.getElem?_eq_some_iff.1 hu).1;have h := hc (i * 15 + c) u (by rw [flatP_get hx h15]; exact hu);rwa [show off + i * 15 + c = off + (i * 15 + c) by omega]
theorem PRow.of_k {f : Nat → PB} (h : KRow 0 w 15 a n (fun i => (f i).cells)) : PRow 0 w a ((List.range n).map f) := by
 rcases h with h | ⟨b, off, ha, _, hlt, hc⟩
 · rw [h]; exact .inl rfl
 refine .inr ⟨b, off, ha, nZ, hlt, fun j u hu => ?_⟩;have hj := (List.getElem?_eq_some_iff.1 hu).1;rw [flatP_len, List.length_map, List.length_range] at hj;have hd := Nat.div_add_mod j 15;have hm := Nat.mod_lt j (show 0 < 15 by omega);have hi : j / 15 < n := by omega
 have hx : ((List.range n).map f)[j / 15]? = some (f (j / 15)) := by rw [List.getElem?_map, List.getElem?_range hi]; rfl
 have e : j = j / 15 * 15 + j % 15 := by omega
 rw [e, flatP_get hx hm] at hu;have h := hc (j / 15) hi (j % 15) u hu;rwa [show off + j = off + j / 15 * 15 + j % 15 by omega]
theorem infoA15 : (Tryz.prog.info? 39).map (fun i => (i.zero, i.size, i.bytes)) = some (some (.agg zPa), 15, 216) := by kernel_rfl
theorem run_appP (w : World) (ty : TypeId) (B n : Nat) (v : Value) (xs : List Value) (HO : w.ownsRow B 39 15 v n xs) (xa : Option Addr) (m c : Nat) (news : List Value)
 (HN : m = 0 ∨ ∃ b off, xa = some ⟨b, off, none⟩ ∧ ∀ j u, news[j]? = some u → w.cell? ⟨b, off + j, none⟩ = some u) (hl : news.length = m * 15) (h1 : ∀ u ∈ news, u.oneCell' = true) (hle : n + m ≤ 3000000) (hB : B ≤ w.heap.size) :
 ∃ a' cap w', (Builtin.append_ #[49, 49] ty #[v, .slice xa m c]).run Tryz.prog w = .ok (.slice a' (n + m) cap) w' ∧ w'.ownsRow B 39 15 (.slice a' (n + m) cap) (n + m) (xs ++ news) ∧ w.grownBy w' v.ownBlock := by
 obtain ⟨i0, hi0, hzz⟩ := Option.map_eq_some_iff.1 infoA15;simp only [Prod.mk.injEq] at hzz;obtain ⟨hi2, hi1, hi3⟩ := hzz;by_cases h0 : m = 0
 · subst h0
   have hn := List.eq_nil_of_length_eq_zero (by omega);subst hn;obtain ⟨a', cap, hv, hc⟩ : ∃ a' cap, v = .slice a' n cap ∧ n ≤ cap := by
    rcases HO.2 with ⟨hv, h0⟩ | ⟨g, cap, cur, hv, _, _, hc, _⟩
    · exact ⟨none, 0, by rw [hv, h0], by omega⟩
    exact ⟨_, cap, hv, hc⟩
   have hs : Src Tryz.prog i0.size 49 (.slice xa 0 c) 0 [] w := by
    cases xa with
    | none => exact Src.ofNil w Tryz.underlying49 c
    | some ad => exact Src.ofSlice w Tryz.underlying49 ad 0 c [] (by simp) (fun j u hu => by simp at hu) (fun u hu => by cases hu)
   refine ⟨a', cap, w, ?_, ?_, ⟨rfl, rfl, rfl, nR, fun _ _ _ => rfl⟩⟩
   · rw [hv]
     exact run_append_nothing w 49 49 ty 39 i0 Tryz.underlying49 hi0 a' n cap hc _ hs
   rw [List.append_nil];subst hv;exact HO
 obtain ⟨b, off, rfl, hc⟩ := HN.resolve_left h0;obtain ⟨g, cap, w', hr, h2, h3, h4, h5⟩ := run_append_lies (P := Tryz.prog) w 49 ty B 39 i0 _ 15 216 Tryz.underlying49 hi0 hi2 hi1 hi3 rfl (by omega) v n xs HO ⟨b, off, none⟩ m c news hl (fun j u hu => by rw [show (⟨b, off, none⟩ : Addr).add j = ⟨b, off + j, none⟩ from by unfold Addr.add; split <;> simp_all]; exact hc j u hu) h1 (by omega) (by unfold maxLen; omega) (by omega) hB _ rfl;exact ⟨_, cap, w', hr, h2, h3⟩
theorem wp_appP {o : Oper} {a : Act} (s x : Operand)
 (ho : o.op = .call { callee := .builtin .append, args := #[s, x], argTypes := #[49, 49] }) (B n : Nat) (v : Value) (xs : List Value) (hs : a.eval s = v) (HO : Hd (w.ownsRow B 39 15 v n xs)) (xa : Option Addr) (m c : Nat) (news : List Value) (hx : a.eval x = .slice xa m c)
 (HN : Hd (m = 0 ∨ ∃ b off, xa = some ⟨b, off, none⟩ ∧ ∀ j u, news[j]? = some u → w.cell? ⟨b, off + j, none⟩ = some u)) (hl : Hd (news.length = m * 15)) (h1 : Hd (∀ u ∈ news, u.oneCell' = true)) (hle : n + m ≤ 3000000) (hB : B ≤ w.heap.size)
 (h : ∀ a' cap w', Hd (w'.ownsRow B 39 15 (.slice a' (n + m) cap) (n + m) (xs ++ news)) → Hd (w.grownBy w' v.ownBlock) → K (a.put o.dst (.slice a' (n + m) cap)) w') : Oper.wp Tryz.prog o a w K Q := by
 obtain ⟨a', cap, w', hr, h2, h3⟩ := run_appP w o.type B n v xs HO.o xa m c news HN.o hl.o h1.o hle hB;unfold Oper.wp execOp;simp only [ho, resolve, invoke, builtin, Sem.run_bind, Sem.run_pure, Result.andThen_ok, List.map_toArray, List.map_cons, List.map_nil, hs, hx, hr];exact h a' cap w' h2 h3
theorem step_appP {o : Oper} {a : Act} {E : Prop} (s x : Operand) (dd : Nat) (B n : Nat) (v : Value) (xs : List Value) (HO : Hd (w.ownsRow B 39 15 v n xs)) (xa : Option Addr) (m c : Nat) (news : List Value)
 (HN : Hd (m = 0 ∨ ∃ b off, xa = some ⟨b, off, none⟩ ∧ ∀ j u, news[j]? = some u → w.cell? ⟨b, off + j, none⟩ = some u)) (hl : Hd (news.length = m * 15)) (h1 : Hd (∀ u ∈ news, u.oneCell' = true)) (N : Nat) (hN : n + m = N) (hle : N ≤ 3000000) (hB : B ≤ w.heap.size)
 (h : ∀ a' cap w', Hd (w'.ownsRow B 39 15 (.slice a' N cap) N (xs ++ news)) → Hd (w.grownBy w' v.ownBlock) → K (a.put (some dd) (.slice a' N cap)) w')
 (hgd : o.guard = none := by rfl) (hdd : o.dst = some dd := by rfl) (ho : o.op = .call { callee := .builtin .append, args := #[s, x], argTypes := #[49, 49] } := by rfl) (hs : a.eval s = v := by rfl) (hx : a.eval x = .slice xa m c := by rfl) :
 if Region.wanted o (yielded ops a.tmps) = true then Oper.wp Tryz.prog o a w K Q else E := by
 have hw : Region.wanted o (yielded ops a.tmps) = true := by simp [Region.wanted, hgd]
 subst hN;rw [if_pos hw];exact wp_appP s x ho B n v xs hs HO xa m c news hx HN hl h1 hle hB fun a' cap w' p q => by rw [hdd]; exact h a' cap w' p q
theorem list_appP {rest : List Oper} {o : Oper} {a : Act} (s x : Operand) (dd : Nat) (B n : Nat) (v : Value) (xs : List Value) (HO : Hd (w.ownsRow B 39 15 v n xs)) (xa : Option Addr) (m c : Nat) (news : List Value)
 (HN : Hd (m = 0 ∨ ∃ b off, xa = some ⟨b, off, none⟩ ∧ ∀ j u, news[j]? = some u → w.cell? ⟨b, off + j, none⟩ = some u)) (hl : Hd (news.length = m * 15)) (h1 : Hd (∀ u ∈ news, u.oneCell' = true)) (N : Nat) (hN : n + m = N) (hle : N ≤ 3000000) (hB : B ≤ w.heap.size)
 (h : ∀ a' cap w', Hd (w'.ownsRow B 39 15 (.slice a' N cap) N (xs ++ news)) → Hd (w.grownBy w' v.ownBlock) → wpList Tryz.prog ops Q rest (a.put (some dd) (.slice a' N cap)) w')
 (hgd : o.guard = none := by rfl) (hdd : o.dst = some dd := by rfl) (ho : o.op = .call { callee := .builtin .append, args := #[s, x], argTypes := #[49, 49] } := by rfl) (hs : a.eval s = v := by rfl) (hx : a.eval x = .slice xa m c := by rfl) : wpList Tryz.prog ops Q (o :: rest) a w := by
 subst hN;exact wpList_plain hgd fun _ hK => wp_appP s x ho B n v xs hs HO xa m c news hx HN hl h1 hle hB fun a' cap w' p q => hK _ _ (by rw [hdd]; exact h a' cap w' p q)
theorem PRow.of_own {a' : Option Addr} {cap : Nat} (h : w.ownsRow B 39 15 (.slice a' n cap) n (flatP l)) : n = l.length ∧ n ≤ cap ∧ PRow B w a' l := by
 have hl := h.1;rw [flatP_len] at hl;have hn : n = l.length := by omega
 refine ⟨hn, ?_⟩;rcases h.2 with ⟨hv, h0⟩ | ⟨g, cap', cur, hv, hB, hg, hc, _, hs, ht⟩
 · cases hv
   exact ⟨by omega, .inl (List.eq_nil_of_length_eq_zero (by omega))⟩
 cases hv;refine ⟨hc, .inr ⟨g, 0, rfl, hB, (Array.getElem?_eq_some_iff.1 hg).1, fun j u hu => ?_⟩⟩;have hj := (List.getElem?_eq_some_iff.1 hu).1;rw [flatP_len] at hj;rw [← ht, List.getElem?_take, if_pos (by omega)] at hu;rw [Nat.zero_add];simp only [World.cell?, hg];simpa using hu
end Go.Proofs.YtoloadogihbdeaaGreat
