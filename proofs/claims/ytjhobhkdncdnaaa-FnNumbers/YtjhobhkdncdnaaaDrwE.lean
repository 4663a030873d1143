/- Draws: DrawShow, DrawCompare. -/
import Derived.Test.YtjhobhkdncdnaaaDrwD
namespace Go.Proofs.Ytjhobhkdncdnaaa
open Go.RowKit Go.Deep

/-- A term's parts, with its text's place. -/
structure Tq where
  k : Int
  a : Option Addr
  len : Nat
  cap : Nat
  bs : List Int
  n : Int
  s : Int
/-- Its numbers are of 64 bits, its text is there. -/
def Tq.at (t : Tq) (w : World) : Prop := (-9223372036854775808 ≤ t.n ∧ t.n ≤ 9223372036854775807) ∧ (-9223372036854775808 ≤ t.s ∧ t.s ≤ 9223372036854775807) ∧ Bs w t.a t.len t.bs
theorem Tq.at.below {t : Tq} {w w' : World} (h : t.at w) (hb : Below w.heap.size w w') : t.at w' := ⟨h.1, h.2.1, h.2.2.below hb⟩

/-- What a drawn term is. -/
def OneRes (w : World) (e : Ending) (w' : World) : Prop := ∃ t : Tq, e = .returned (.agg #[.int .i64 t.k, .slice t.a t.len t.cap, .int .i64 t.n, .int .i64 t.s]) ∧ t.at w' ∧ Below w.heap.size w w'
theorem DrawShow_any (a : Option Addr) (len cap : Nat) (w : World) (hlen : len ≤ 9223372036854775807) (hC : Code w a len) :
    Calls Try.prog 6 #[.slice a len cap] w fun e w' => OneRes w e w' := by
  have NW := fun w h => l1New_any a len cap w hlen h
  have HC : Hid (∀ o, Code (w.alloc o) a len) := fun o => by
    rcases hC with h | ⟨b, off, ha, hlt, hc⟩
    · exact .inl h
    · refine .inr ⟨b, off, ha, by simp; omega, fun i hi => ?_⟩
      rw [(bl_a (w := w) o).cell (p := ⟨b, off + i, none⟩) hlt]
      exact hc i hi
  clear hC
  go_enter Try.func6, Try.ntmps6
  go_wp2_with fail
  refine (NW _ (HC.out _)).mono ?_
  rintro e w1 ⟨rfl, hb1, hC1⟩
  have hR1 := (Own4.at w w.heap.size (.int .i64 0) (.slice none 0 0) (.int .i64 0) (.int .i64 0) 24 rfl).below hb1
  have hs1 := hb1.size
  simp at hs1 hC1
  have hw1 := bl_trans (bl_a _) hb1
  clear hb1 NW HC
  go_wp2_with fail
  refine (l1bent_any _ a len cap _ hlen hC1).mono ?_
  rintro e w2 ⟨⟨k, n, s, ta, tl, tc, bs, rfl, hn, hsc, htl, hT⟩, hP2, hC2⟩
  have hR2 := hR1.past hP2 (by omega)
  have hw2 : Below w.heap.size w w2 := hw1.trans (hP2.below (by omega) hw1.size)
  have HT : Hid (BTx w2 w1.heap.size ta tl bs) := hT
  have HW : Hid (Below w.heap.size w w2) := hw2
  obtain ⟨⟨o0, o1, o2, o3, o4⟩, f0, f1, f2, f3⟩ := id hR2
  clear hT hP2 hC2 hC1 hR1 hR2 hw1 hw2
  go_wp2
  refine bodyPost_ret (v := .agg #[.int .i64 k, .slice ta tl tc, .int .i64 n, .int .i64 s]) (by simp [results, Try.results6, go_sem, *]) rfl ⟨⟨k, ta, tl, tc, bs, n, s⟩, rfl, ⟨hn, hsc, ?_⟩, ?_⟩
  · exact (HT.out.past (((((Past.refl w.heap.size w2).set 0 _).set 1 _).set 2 _).set 3 _) (by omega)).1
  · exact bl_set (bl_set (bl_set (bl_set HW.out (Nat.le_refl _) _) (Nat.le_refl _) _) (Nat.le_refl _) _) (Nat.le_refl _) _

/-- What two drawn terms are. -/
def TwoRes (w : World) (e : Ending) (w' : World) : Prop := ∃ t u : Tq, e = .returned (.tuple #[.agg #[.int .i64 t.k, .slice t.a t.len t.cap, .int .i64 t.n, .int .i64 t.s], .agg #[.int .i64 u.k, .slice u.a u.len u.cap, .int .i64 u.n, .int .i64 u.s]]) ∧ t.at w' ∧ u.at w' ∧ Below w.heap.size w w'
theorem DrawCompare_any (a : Option Addr) (len cap : Nat) (w : World) (hlen : len ≤ 9223372036854775807) (hC : Code w a len) :
    Calls Try.prog 5 #[.slice a len cap] w fun e w' => TwoRes w e w' := by
  have NW := fun w h => l1New_any a len cap w hlen h
  have HC : Hid (∀ o o', Code ((w.alloc o).alloc o') a len) := fun o o' => by
    rcases hC with h | ⟨b, off, ha, hlt, hc⟩
    · exact .inl h
    · refine .inr ⟨b, off, ha, by simp; omega, fun i hi => ?_⟩
      rw [(bl_alloc (bl_a (w := w) o) o').cell (p := ⟨b, off + i, none⟩) hlt]
      exact hc i hi
  clear hC
  go_enter Try.func5, Try.ntmps5
  go_wp2_with fail
  refine (NW _ (HC.out _ _)).mono ?_
  rintro e w1 ⟨rfl, hb1, hC1⟩
  have hR1 := (Own4.at w w.heap.size (.int .i64 0) (.slice none 0 0) (.int .i64 0) (.int .i64 0) 24 rfl).below (bl_trans (bl_a _) hb1)
  have hV1 := (Own4.at (w.alloc _) (w.heap.size + 1) (.int .i64 0) (.slice none 0 0) (.int .i64 0) (.int .i64 0) 24 (by simp)).below hb1
  have hs1 := hb1.size
  simp at hs1 hC1
  have hw1 := bl_trans (bl_alloc (bl_a _) _) hb1
  have hg1 := hC1.lt
  clear hb1 NW HC
  go_wp2_with fail
  refine (l1bent_any _ a len cap _ hlen hC1).mono ?_
  rintro e w2 ⟨⟨k, n, s, ta, tl, tc, bs, rfl, hn, hsc, htl, hT⟩, hP2, hC2⟩
  have hR2 := hR1.past hP2 (by omega)
  have hV2 := hV1.past hP2 (by omega)
  have hs2 := hP2.size
  have hw2 : Below w.heap.size w w2 := hw1.trans (hP2.below (by omega) hw1.size)
  clear hP2 hR1 hV1 hw1 hC1
  go_wp2_with fail
  refine (l1bent_any _ a len cap _ hlen hC2).mono ?_
  rintro e w3 ⟨⟨k', n', s', ta', tl', tc', bs', rfl, hn', hsc', htl', hT'⟩, hP3, hC3⟩
  have hR3 := hR2.past hP3 (by omega)
  have hV3 := hV2.past hP3 (by omega)
  have hw3 : Below w.heap.size w w3 := hw2.trans (hP3.below (by omega) hw2.size)
  have HT : Hid (BTx w3 w1.heap.size ta tl bs) := hT.past hP3 (by omega)
  have HT' : Hid (BTx w3 w2.heap.size ta' tl' bs') := hT'
  have HW : Hid (Below w.heap.size w w3) := hw3
  obtain ⟨⟨o0, o1, o2, o3, o4⟩, f0, f1, f2, f3⟩ := id hR3
  obtain ⟨⟨p0, p1, p2, p3, p4⟩, e0, e1, e2, e3⟩ := id hV3
  clear hT hT' hP3 hC3 hC2 hR2 hR3 hV2 hV3 hw2 hw3
  go_wp2
  refine bodyPost_ret (v := .tuple #[.agg #[.int .i64 k, .slice ta tl tc, .int .i64 n, .int .i64 s], .agg #[.int .i64 k', .slice ta' tl' tc', .int .i64 n', .int .i64 s']]) (by simp [results, Try.results5, go_sem, *]) rfl ⟨⟨k, ta, tl, tc, bs, n, s⟩, ⟨k', ta', tl', tc', bs', n', s'⟩, rfl, ⟨hn, hsc, ?_⟩, ⟨hn', hsc', ?_⟩, ?_⟩
  · exact ((HT.out.past (((((Past.refl w.heap.size w3).set 0 _).set 1 _).set 2 _).set 3 _) (by omega)).past (((((Past.refl (w.heap.size + 1) _).set 0 _).set 1 _).set 2 _).set 3 _) (by omega)).1
  · exact ((HT'.out.past (((((Past.refl w.heap.size w3).set 0 _).set 1 _).set 2 _).set 3 _) (by omega)).past (((((Past.refl (w.heap.size + 1) _).set 0 _).set 1 _).set 2 _).set 3 _) (by omega)).1
  · exact bl_set (bl_set (bl_set (bl_set (bl_set (bl_set (bl_set (bl_set HW.out (Nat.le_refl _) _) (Nat.le_refl _) _) (Nat.le_refl _) _) (Nat.le_refl _) _) (Nat.le_succ _) _) (Nat.le_succ _) _) (Nat.le_succ _) _) (Nat.le_succ _) _
end Go.Proofs.Ytjhobhkdncdnaaa
