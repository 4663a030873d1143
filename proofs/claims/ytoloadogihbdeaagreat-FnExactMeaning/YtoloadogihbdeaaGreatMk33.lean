import Derived.Test.YtoloadogihbdeaaGreatMk30
import Derived.Test.YtoloadogihbdeaaGreatMk31
import Derived.Test.YtoloadogihbdeaaGreatMk32
namespace Go.Proofs.YtoloadogihbdeaaGreat
open Go.RowKit Go.Deep
set_option maxHeartbeats 40000000
set_option maxRecDepth 100000
theorem nodup_map {α β : Type} {f : α → β} {l : List α} (hf : ∀ x y, f x = f y → x = y) (h : l.Nodup) : (l.map f).Nodup := by
 induction l with
 | nil => exact List.nodup_nil
 | cons a l ih =>
  have h2 := List.nodup_cons.1 h
  refine List.nodup_cons.2 ⟨fun hm => ?_, ih h2.2⟩
  obtain ⟨x, hx, e⟩ := List.mem_map.1 hm
  exact h2.1 (hf _ _ e ▸ hx)
def cnt (p : Nat × Nat) (L : List MC) : Nat := (psM L).count p
theorem cnt_app (p : Nat × Nat) (A L : List MC) : cnt p (A ++ L) = cnt p A + cnt p L := by
 unfold cnt psM
 rw [List.map_append, List.count_append]
def uno (P : Prop) [Decidable P] : Nat := if P then 1 else 0
theorem cnt_txt (b q : Nat) (a : Option Addr) (len : Nat) : cnt (b, q) (txC a len) ≤ (if len = 0 then ([] : List Nat) else [blk a]).count b := by
 by_cases h0 : len = 0
 · subst h0
   exact nZ
 rw [if_neg h0]
 have e : psM (txC a len) = (List.range len).map (fun i => (blk a, i)) := by
  unfold psM txC
  rw [List.map_map]
  rfl
 unfold cnt
 rw [e]
 by_cases hb : b = blk a
 · subst hb
   have hn : ((List.range len).map (fun i => (blk a, i))).Nodup := nodup_map (fun x y h => by simpa using h) List.nodup_range
   have h1 := List.nodup_iff_count.1 hn (blk a, q)
   rw [List.count_singleton_self]
   exact h1
 rw [List.count_eq_zero_of_not_mem]
 · exact nZ
 intro h
 obtain ⟨i, _, hi⟩ := List.mem_map.1 h
 exact hb (congrArg Prod.fst hi).symm
theorem catB_count {f : Nat → List Nat} {b : Nat} : ∀ n, (catB f n).count b = sumN n (fun i => (f i).count b)
 | 0 => rfl
 | n + 1 => by
  show (catB f n ++ f n).count b = sumN n _ + _
  rw [List.count_append, catB_count n]
theorem row_cnt {f : Nat → List MC} {s : Nat → Nat} {b q g sz : Nat} : ∀ {n : Nat}, (∀ i, i < n → cnt (b, q) (f i) ≤ uno (b = g ∧ i * sz ≤ q ∧ q < i * sz + sz) + s i) → cnt (b, q) (catM f n) ≤ uno (b = g ∧ q < n * sz) + sumN n s
 | 0, _ => nZ
 | n + 1, h => by
  show cnt (b, q) (catM f n ++ f n) ≤ _ + (sumN n s + s n)
  rw [cnt_app]
  have h1 := row_cnt (n := n) fun i hi => h i (by omega)
  have h2 := h n (by omega)
  have e : uno (b = g ∧ q < n * sz) + uno (b = g ∧ n * sz ≤ q ∧ q < n * sz + sz) ≤ uno (b = g ∧ q < (n + 1) * sz) := by
   rw [Nat.succ_mul]
   unfold uno
   by_cases hb : b = g
   · by_cases h3 : q < n * sz
     · rw [if_pos ⟨hb, h3⟩, if_neg (by omega), if_pos ⟨hb, by omega⟩]
       exact nR
     by_cases h4 : q < n * sz + sz
     · rw [if_neg (by omega), if_pos ⟨hb, by omega, h4⟩, if_pos ⟨hb, h4⟩]
       exact nR
     rw [if_neg (by omega), if_neg (by omega)]
     exact nZ
   rw [if_neg (fun h => hb h.1), if_neg (fun h => hb h.1)]
   exact nZ
  omega
theorem rfp_cnt (b q m : Nat) (a : Option Addr) (n : Nat) (h : m = 0 ∨ n ≠ 0) : uno (b = blk a ∧ q < m) ≤ (rfp a n).count b := by
 unfold uno rfp
 by_cases hb : b = blk a ∧ q < m
 · rw [if_pos hb, if_neg (by omega), hb.1, List.count_singleton_self]
   exact nR
 rw [if_neg hb]
 exact nZ
def nsM (g o : Nat) (L : List Nat) : List MC := L.map fun c => (g, o + c, false)
theorem cnt_ns (b q g o sz : Nat) (L : List Nat) (hn : L.Nodup) (hs : ∀ c ∈ L, c < sz) : cnt (b, q) (nsM g o L) ≤ uno (b = g ∧ o ≤ q ∧ q < o + sz) := by
 have e : psM (nsM g o L) = L.map (fun c => (g, o + c)) := by
  unfold psM nsM
  rw [List.map_map]
  rfl
 unfold cnt
 rw [e]
 have hnd : (L.map (fun c => (g, o + c))).Nodup := nodup_map (fun x y h => by simpa using h) hn
 by_cases hm : (b, q) ∈ L.map (fun c => (g, o + c))
 · obtain ⟨c, hc, he⟩ := List.mem_map.1 hm
   have h1 := hs c hc
   simp only [Prod.mk.injEq] at he
   have h2 := List.nodup_iff_count.1 hnd (b, q)
   unfold uno
   rw [if_pos ⟨he.1.symm, by omega, by omega⟩]
   exact h2
 rw [List.count_eq_zero_of_not_mem hm]
 exact nZ
theorem cnt_ns1 (p : Nat × Nat) (g o c : Nat) (L : List Nat) : cnt p (nsM g o (c :: L)) = cnt p [(g, o + c, false)] + cnt p (nsM g o L) := by
 show cnt p ([(g, o + c, false)] ++ nsM g o L) = _
 rw [cnt_app]
theorem cnt_ns0 (p : Nat × Nat) (g o : Nat) : cnt p (nsM g o []) = 0 := rfl
theorem eF_cnt (b q g o : Nat) (d : EN) (M : List MC) : cnt (b, q) (eF g o d M) ≤ uno (b = g ∧ o ≤ q ∧ q < o + 8) + (cnt (b, q) (txC d.v.a d.v.len) + cnt (b, q) (txC d.t.t.a d.t.t.len) + cnt (b, q) (M)) := by
 have h := cnt_ns b q g o 8 [0, 1, 3, 5, 6] (by decide) (by decide)
 simp only [cnt_ns1, cnt_ns0, Nat.add_zero] at h
 unfold eF
 simp only [cnt_app]
 omega
theorem tF_cnt (b q g o : Nat) (d : TB) : cnt (b, q) (tF g o d) ≤ uno (b = g ∧ o ≤ q ∧ q < o + 4) + (cnt (b, q) (txC d.t.a d.t.len)) := by
 have h := cnt_ns b q g o 4 [0, 2, 3] (by decide) (by decide)
 simp only [cnt_ns1, cnt_ns0, Nat.add_zero] at h
 unfold tF
 simp only [cnt_app]
 omega
theorem pF_cnt (b q g o : Nat) (d : PB) : cnt (b, q) (pF g o d) ≤ uno (b = g ∧ o ≤ q ∧ q < o + 15) + (cnt (b, q) (txC d.s.v.a d.s.v.len) + cnt (b, q) (txC d.s.t.t.a d.s.t.t.len) + cnt (b, q) (txC d.p.v.a d.p.v.len) + cnt (b, q) (txC d.p.t.t.a d.p.t.t.len) + cnt (b, q) (txC d.o.v.a d.o.v.len) + cnt (b, q) (txC d.o.t.t.a d.o.t.t.len)) := by
 have h := cnt_ns b q g o 15 [1, 3, 4, 6, 8, 9, 11, 13, 14] (by decide) (by decide)
 simp only [cnt_ns1, cnt_ns0, Nat.add_zero] at h
 unfold pF
 simp only [cnt_app]
 omega
theorem aF_cnt (b q g o : Nat) (d : AN) (M : List MC) : cnt (b, q) (aF g o d M) ≤ uno (b = g ∧ o ≤ q ∧ q < o + 13) + (cnt (b, q) (patM d.pa d.pn d.pat) + cnt (b, q) (txC d.e.d.v.a d.e.d.v.len) + cnt (b, q) (txC d.e.d.t.t.a d.e.d.t.t.len) + cnt (b, q) (d.e.ms) + cnt (b, q) (txC d.v.a d.v.len) + cnt (b, q) (termM d.ta d.tb) + cnt (b, q) (M)) := by
 have h := cnt_ns b q g o 13 [0, 2, 3, 5, 7, 8] (by decide) (by decide)
 simp only [cnt_ns1, cnt_ns0, Nat.add_zero] at h
 unfold aF
 simp only [cnt_app]
 omega
theorem SL.cnt_le (x : SL) (b q : Nat) : cnt (b, q) (txC x.a x.len) ≤ x.fp.count b := cnt_txt b q x.a x.len
theorem IB.cnt_le (x : IB) (b q : Nat) : cnt (b, q) (txC x.v.a x.v.len) + cnt (b, q) (txC x.t.t.a x.t.t.len) ≤ x.fp.count b := by
 unfold IB.fp
 rw [List.count_append]
 exact Nat.add_le_add (x.v.cnt_le b q) (x.t.sl.cnt_le b q)
theorem row_le {f : Nat → List MC} {F : Nat → List Nat} {b q sz n : Nat} {a : Option Addr} (h : ∀ i, i < n → cnt (b, q) (f i) ≤ uno (b = blk a ∧ i * sz ≤ q ∧ q < i * sz + sz) + (F i).count b) : cnt (b, q) (catM f n) ≤ (rfp a n ++ catB F n).count b := by
 rw [List.count_append, catB_count]
 refine Nat.le_trans (row_cnt h) (Nat.add_le_add_right (rfp_cnt b q _ a n ?_) _)
 by_cases h0 : n = 0
 · left; rw [h0, Nat.zero_mul]
 exact .inr h0
theorem patM_cnt (b q : Nat) (a : Option Addr) (n : Nat) (kid : Nat → PB) : cnt (b, q) (patM a n kid) ≤ (rfp a n ++ catB (fun i => (kid i).fp) n).count b := by
 refine row_le (sz := 15) fun i _ => Nat.le_trans (pF_cnt b q (blk a) (i * 15) (kid i)) (Nat.add_le_add_left ?_ _)
 unfold PB.fp
 rw [List.count_append, List.count_append]
 have h1 := (kid i).s.cnt_le b q
 have h2 := (kid i).p.cnt_le b q
 have h3 := (kid i).o.cnt_le b q
 omega
theorem termM_cnt (b q : Nat) (a : Option Addr) (l : List TB) : cnt (b, q) (termM a l) ≤ (tfp a l).count b :=
 row_le (sz := 4) (F := fun i => (tbN l i).fp) fun i _ => Nat.le_trans (tF_cnt b q (blk a) (i * 4) (tbN l i)) (Nat.add_le_add_left ((tbN l i).sl.cnt_le b q) _)
theorem ET.cnt_le (e : ET) (b q : Nat) : cnt (b, q) (txC e.d.v.a e.d.v.len) + cnt (b, q) (txC e.d.t.t.a e.d.t.t.len) + cnt (b, q) (e.ms) ≤ e.fp.count b := by
 induction e with
 | nil => exact nZ
 | mk d kid ih =>
  show cnt (b, q) (txC d.v.a d.v.len) + cnt (b, q) (txC d.t.t.a d.t.t.len) + cnt (b, q) (catM (fun i => eF (blk d.ka) (i * 8) (kid i).d (kid i).ms) d.n) ≤ (d.v.fp ++ d.t.fp ++ (rfp d.ka d.n ++ catB (fun i => (kid i).fp) d.n)).count b
  rw [List.count_append, List.count_append]
  exact Nat.add_le_add (Nat.add_le_add (d.v.cnt_le b q) (d.t.sl.cnt_le b q)) (row_le (sz := 8) (F := fun i => (kid i).fp) fun i _ => Nat.le_trans (eF_cnt b q (blk d.ka) (i * 8) (kid i).d (kid i).ms) (Nat.add_le_add_left (ih i) _))
theorem AT.cnt_le (e : AT) (b q : Nat) : cnt (b, q) e.tms ≤ e.fp.count b := by
 induction e with
 | nil => exact nZ
 | mk d kid ih =>
  unfold AT.tms
  show cnt (b, q) (patM d.pa d.pn d.pat ++ (txC d.e.d.v.a d.e.d.v.len ++ txC d.e.d.t.t.a d.e.d.t.t.len ++ d.e.ms) ++ txC d.v.a d.v.len ++ termM d.ta d.tb ++ catM (fun i => aF (blk d.ka) (i * 13) (kid i).d (kid i).ms) d.n) ≤ ((rfp d.pa d.pn ++ catB (fun i => (d.pat i).fp) d.pn) ++ d.e.fp ++ d.v.fp ++ tfp d.ta d.tb ++ (rfp d.ka d.n ++ catB (fun i => (kid i).fp) d.n)).count b
  rw [cnt_app, cnt_app, cnt_app, cnt_app, List.count_append, List.count_append, List.count_append, List.count_append]
  have h1 := patM_cnt b q d.pa d.pn d.pat
  have h2 := d.e.cnt_le b q
  have h3 := d.v.cnt_le b q
  have h4 := termM_cnt b q d.ta d.tb
  have h5 : cnt (b, q) (catM (fun i => aF (blk d.ka) (i * 13) (kid i).d (kid i).ms) d.n) ≤ (rfp d.ka d.n ++ catB (fun i => (kid i).fp) d.n).count b := by
   refine row_le (sz := 13) (F := fun i => (kid i).fp) fun i _ => Nat.le_trans (aF_cnt b q (blk d.ka) (i * 13) (kid i).d (kid i).ms) (Nat.add_le_add_left ?_ _)
   have h := ih i
   unfold AT.tms at h
   simp only [cnt_app] at h
   omega
  have e2 : cnt (b, q) (txC d.e.d.v.a d.e.d.v.len ++ txC d.e.d.t.t.a d.e.d.t.t.len ++ d.e.ms) = cnt (b, q) (txC d.e.d.v.a d.e.d.v.len) + cnt (b, q) (txC d.e.d.t.t.a d.e.d.t.t.len) + cnt (b, q) d.e.ms := by rw [cnt_app, cnt_app]
  omega
theorem AT.once {e : AT} (h : e.fp.Nodup) : (psM e.tms).Nodup := List.nodup_iff_count.2 fun ⟨b, q⟩ => Nat.le_trans (e.cnt_le b q) (List.nodup_iff_count.1 h b)
theorem AT.within {e : AT} {c : MC} (h : c ∈ e.tms) : c.1 ∈ e.fp := by
 have h1 : 0 < cnt (c.1, c.2.1) e.tms := List.count_pos_iff.2 (List.mem_map.2 ⟨c, h, rfl⟩)
 exact List.count_pos_iff.1 (Nat.lt_of_lt_of_le h1 (e.cnt_le c.1 c.2.1))
theorem catM_len {f : Nat → List MC} : ∀ n, (catM f n).length = sumN n (fun i => (f i).length)
 | 0 => rfl
 | n + 1 => by
  show (catM f n ++ f n).length = sumN n _ + _
  rw [List.length_append, catM_len n]
theorem sum16 {n k : Nat} {f g : Nat → Nat} (h : ∀ i, i < n → f i ≤ k + 16 * g i) : sumN n f ≤ k * n + 16 * sumN n g := by
 induction n with
 | zero => simp [sumN]
 | succ n ih =>
  have h1 := ih fun i hi => h i (by omega)
  have h2 := h n (by omega)
  show sumN n f + f n ≤ k * (n + 1) + 16 * (sumN n g + g n)
  rw [Nat.mul_succ]
  omega
theorem sum_m {n m : Nat} {f g : Nat → Nat} (h : ∀ i, i < n → f i ≤ m * g i) : sumN n f ≤ m * sumN n g := by
 induction n with
 | zero => simp [sumN]
 | succ n ih =>
  have h1 := ih fun i hi => h i (by omega)
  have h2 := h n (by omega)
  show sumN n f + f n ≤ m * (sumN n g + g n)
  rw [Nat.mul_add]
  omega
theorem patM_len (a : Option Addr) (n : Nat) (kid : Nat → PB) : (patM a n kid).length ≤ 16 * (n + sumN n (fun i => (kid i).wt)) := by
 unfold patM
 rw [catM_len]
 have h := sum16 (n := n) (k := 9) (f := fun i => (pF (blk a) (i * 15) (kid i)).length) (g := fun i => (kid i).wt) fun i _ => by
  unfold pF PB.wt IB.wt
  simp only [List.length_append, List.length_cons, List.length_nil, txC_len]
  omega
 omega
theorem termM_len (a : Option Addr) (tb : List TB) : (termM a tb).length ≤ 16 * (tb.length + twt tb tb.length) := by
 unfold termM
 rw [catM_len, twt_eq]
 have h := sum16 (n := tb.length) (k := 3) (f := fun i => (tF (blk a) (i * 4) (tbN tb i)).length) (g := fun i => (tbN tb i).t.len) fun i _ => by
  unfold tF
  simp only [List.length_append, List.length_cons, List.length_nil, txC_len]
  omega
 omega
theorem ET.ms_len (e : ET) : e.d.v.len + e.d.t.t.len + e.ms.length ≤ 16 * e.wt := by
 induction e with
 | nil => exact nZ
 | mk d kid ih =>
  show d.v.len + d.t.t.len + (catM (fun i => eF (blk d.ka) (i * 8) (kid i).d (kid i).ms) d.n).length ≤ 16 * (d.v.len + d.t.t.len + (d.n + sumN d.n (fun i => (kid i).wt)))
  rw [catM_len]
  have h := sum16 (n := d.n) (k := 5) (f := fun i => (eF (blk d.ka) (i * 8) (kid i).d (kid i).ms).length) (g := fun i => (kid i).wt) fun i _ => by
   have := ih i
   unfold eF
   simp only [List.length_append, List.length_cons, List.length_nil, txC_len]
   omega
  omega
def AT.tl (e : AT) : Nat := (patM e.d.pa e.d.pn e.d.pat).length + (e.d.e.d.v.len + e.d.e.d.t.t.len + e.d.e.ms.length) + e.d.v.len + (termM e.d.ta e.d.tb).length + e.ms.length
theorem AT.tl_le (e : AT) : e.tl ≤ 16 * e.wt := by
 induction e with
 | nil => exact nZ
 | mk d kid ih =>
  show (patM d.pa d.pn d.pat).length + (d.e.d.v.len + d.e.d.t.t.len + d.e.ms.length) + d.v.len + (termM d.ta d.tb).length + (catM (fun i => aF (blk d.ka) (i * 13) (kid i).d (kid i).ms) d.n).length ≤ 16 * ((d.pn + sumN d.pn (fun i => (d.pat i).wt)) + d.e.wt + d.v.len + (d.tb.length + twt d.tb d.tb.length) + (d.n + sumN d.n (fun i => (kid i).wt)))
  have h1 := patM_len d.pa d.pn d.pat
  have h2 := d.e.ms_len
  have h3 := termM_len d.ta d.tb
  rw [catM_len]
  have h := sum16 (n := d.n) (k := 6) (f := fun i => (aF (blk d.ka) (i * 13) (kid i).d (kid i).ms).length) (g := fun i => (kid i).wt) fun i _ => by
   have := ih i
   unfold AT.tl at this
   unfold aF
   simp only [List.length_append, List.length_cons, List.length_nil, txC_len]
   omega
  omega
def PT.tl (e : PT) : Nat := (e.d.p.wt + (e.d.e.d.v.len + e.d.e.d.t.t.len + e.d.e.ms.length) + e.d.v.len + (termM e.d.ta e.d.tb).length + e.ms.length)
theorem lF_len (g o : Nat) (d : PN) (M : List MC) : (lF g o d M).length = 16 + d.p.wt + (d.e.d.v.len + d.e.d.t.t.len + d.e.ms.length) + d.v.len + (termM d.ta d.tb).length + M.length := by
 unfold lF
 simp only [List.length_append, List.length_cons, List.length_nil, txC_len]
 generalize d.e.ms.length = x1
 generalize (termM d.ta d.tb).length = x2
 generalize M.length = x3
 show _ = 16 + ((d.p.s.v.len + d.p.s.t.t.len) + (d.p.p.v.len + d.p.p.t.t.len) + (d.p.o.v.len + d.p.o.t.t.len)) + _ + _ + _ + _
 generalize d.p.s.v.len = y1
 generalize d.p.s.t.t.len = y2
 generalize d.p.p.v.len = y3
 generalize d.p.p.t.t.len = y4
 generalize d.p.o.v.len = y5
 generalize d.p.o.t.t.len = y6
 generalize d.e.d.v.len = y7
 generalize d.e.d.t.t.len = y8
 generalize d.v.len = y9
 omega
theorem PT.tl_le (e : PT) : e.tl ≤ 16 * e.wt := by
 induction e with
 | nil => exact nZ
 | mk d kid ih =>
  show d.p.wt + (d.e.d.v.len + d.e.d.t.t.len + d.e.ms.length) + d.v.len + (termM d.ta d.tb).length + (catM (fun i => lF (blk d.ka) (i * 28) (kid i).d (kid i).ms) d.n).length ≤ 16 * (d.p.wt + d.e.wt + d.v.len + (d.tb.length + twt d.tb d.tb.length) + (d.n + sumN d.n (fun i => (kid i).wt)))
  have h2 := d.e.ms_len
  have h3 := termM_len d.ta d.tb
  rw [catM_len]
  have h := sum16 (n := d.n) (k := 16) (f := fun i => (lF (blk d.ka) (i * 28) (kid i).d (kid i).ms).length) (g := fun i => (kid i).wt) fun i _ => (by
   have h := ih i
   rw [lF_len]
   exact Nat.le_trans (Nat.le_of_eq (by unfold PT.tl; simp only [Nat.add_assoc])) (Nat.add_le_add_left h 16))
  omega
theorem PT.small_of {w : World} (e : PT) : e.came w → e.wt ≤ 1048576 → e.small := by
 induction e with
 | nil => exact fun h => False.elim h
 | mk d kid ih =>
  intro hc hw
  obtain ⟨hp, he, hv, ht, hn, hR, hk⟩ := hc
  have h : d.p.wt + d.e.wt + d.v.len + (d.tb.length + twt d.tb d.tb.length) + (d.n + sumN d.n (fun i => (kid i).wt)) ≤ 1048576 := hw
  have hpw : d.p.wt = (d.p.s.v.len + d.p.s.t.t.len) + (d.p.p.v.len + d.p.p.t.t.len) + (d.p.o.v.len + d.p.o.t.t.len) := rfl
  exact ⟨⟨⟨by omega, by omega⟩, ⟨by omega, by omega⟩, ⟨by omega, by omega⟩⟩, ET.small_of _ he (by omega), by omega, ⟨by omega, fun x hx => by have := twt_le hx; omega⟩, by omega, fun i hi => ih i (hk i hi) (by have := sumN_le (f := fun i => (kid i).wt) hi; omega)⟩
theorem PT.wt_same {B B' : Nat} {w w' : World} (e : PT) : ∀ e' : PT, e.same e' → e.lies B w → e'.lies B' w' → e.wt = e'.wt := by
 induction e with
 | nil => exact fun _ h => False.elim h
 | mk d kid ih =>
  intro e' hs hl hl'
  cases e' with
  | nil => exact False.elim hl'
  | mk d' kid' =>
   obtain ⟨_, _, sp, se, sv, st, sn, sk⟩ := hs
   obtain ⟨lp, le, lv, lt, _, _, _, lk⟩ := hl
   obtain ⟨lp', le', lv', lt', _, _, _, lk'⟩ := hl'
   show d.p.wt + d.e.wt + d.v.len + (d.tb.length + twt d.tb d.tb.length) + (d.n + sumN d.n (fun i => (kid i).wt)) = d'.p.wt + d'.e.wt + d'.v.len + (d'.tb.length + twt d'.tb d'.tb.length) + (d'.n + sumN d'.n (fun i => (kid' i).wt))
   have ht := twt_same st lt lt'
   rw [PB.wt_same sp lp lp', ET.wt_same _ _ se le le', len_same lv lv' sv, ht.2, ht.1, ← sn, sumN_congr fun i hi => ih i (kid' i) (sk i hi) (lk i hi) (lk' i (by omega))]
theorem zeroE_wt {B : Nat} {w : World} {e : ET} (h : zeroE e) (hl : e.lies B w) : e.wt = 0 := by
 cases e with
 | nil => rfl
 | mk d kid =>
  obtain ⟨_, _, h3, ⟨_, h5, _⟩, h6⟩ := h
  obtain ⟨l1, l2, _⟩ := hl
  have e1 : d.v.len = 0 := by rw [← l1.1.1, show d.v.b = [] from h3]; rfl
  have e2 : d.t.t.len = 0 := by rw [show d.t.t.len = d.t.sl.len from rfl, ← l2.1.1, show d.t.sl.b = [] from h5]; rfl
  have e3 : d.n = 0 := h6
  show d.v.len + d.t.t.len + (d.n + sumN d.n (fun i => (kid i).wt)) = 0
  rw [e1, e2, e3]
  rfl
theorem Mean.wt {B B' : Nat} {w w' : World} {e : PT} : ∀ {y : AT} {deep : Int}, Mean e y → pOk e deep → e.lies B w → y.lies B' w' → y.wt ≤ 3 * e.wt := by
 induction e with
 | nil => intro y _ h; cases y <;> exact False.elim h
 | mk d kid ih =>
  intro y deep h hp hl hl'
  cases y with
  | nil => exact False.elim h
  | mk a ak =>
   obtain ⟨a1, a2, a3, a4, a5⟩ := h
   obtain ⟨_, hN, hk⟩ := hp
   obtain ⟨lp, le, lv, lt, _, _, _, lk⟩ := hl
   obtain ⟨_, _, _, le', lv', lt', _, _, _, lk'⟩ := hl'
   show (a.pn + sumN a.pn (fun i => (a.pat i).wt)) + a.e.wt + a.v.len + (a.tb.length + twt a.tb a.tb.length) + (a.n + sumN a.n (fun i => (ak i).wt)) ≤ 3 * (d.p.wt + d.e.wt + d.v.len + (d.tb.length + twt d.tb d.tb.length) + (d.n + sumN d.n (fun i => (kid i).wt)))
   have ht := twt_same a4 lt lt'
   rw [a1, ← ET.wt_same _ _ a2 le le', ← len_same lv lv' a3, ← ht.2, ← ht.1]
   have e0 : sumN 0 (fun i => (a.pat i).wt) = 0 := rfl
   rcases a5 with ⟨c1, c2, c3, c4, c5⟩ | ⟨c1, c2, c3, c4, c5⟩
   · rw [c4]
     have h3 := sum_m (n := d.n) (m := 3) (f := fun i => (ak i).wt) (g := fun i => (kid i).wt) fun i hi => ih i (c5 i hi) (hk i hi) (lk i hi) (lk' i (by omega))
     omega
   have hn : d.n = 1 := by have h := hN.n; rw [c1] at h; exact h
   rw [c3, hn]
   have h0 := ih 0 c4 (hk 0 (by omega)) (lk 0 (by omega)) (lk' 0 (by omega))
   have s1 : sumN 1 (fun i => (kid i).wt) = (kid 0).wt := by show 0 + (kid 0).wt = _; omega
   have s2 : sumN 2 (fun i => (ak i).wt) = (ak 0).wt + (ak 1).wt := by show 0 + (ak 0).wt + (ak 1).wt = _; omega
   have hz : (ak 1).wt = 1 + d.p.wt := by
    have l1 := lk' 1 (by omega)
    cases hh : ak 1 with
    | nil => rw [hh] at c5; exact False.elim c5
    | mk z zk =>
     rw [hh] at c5 l1
     obtain ⟨_, z2, z3, z4, z5, z6, z7⟩ := c5
     obtain ⟨_, zp, _, ze, zv, _⟩ := l1
     show (z.pn + sumN z.pn (fun i => (z.pat i).wt)) + z.e.wt + z.v.len + (z.tb.length + twt z.tb z.tb.length) + (z.n + sumN z.n (fun i => (zk i).wt)) = _
     rw [z2, z6, z7, zeroE_wt z4 ze, show z.v.len = 0 by rw [← zv.1.1, z5]; rfl, show sumN 1 (fun i => (z.pat i).wt) = (z.pat 0).wt by show 0 + (z.pat 0).wt = _; omega, ← PB.wt_same z3 lp (zp 0 (by omega))]
     show 1 + d.p.wt + 0 + 0 + (0 + 0) + (0 + 0) = 1 + d.p.wt
     omega
   rw [s1, s2, hz]
   omega
theorem row_oz {B : Nat} {w w' : World} {sz n : Nat} {a : Option Addr} {C : Nat → List Value} (hR : KRow B w sz a n C) (hF : RoZ B w a n sz) (hb : Bl w w') (h0 : n ≠ 0) (hz : 0 < sz) :
 ∃ g, a = some ⟨g, 0, none⟩ ∧ B ≤ g ∧ g < w.heap.size ∧ (∀ i, i < n → ∀ c u, (C i)[c]? = some u → w'.cell? ⟨g, i * sz + c, none⟩ = some u) ∧ ∀ i, i < n → ∀ c, c < sz → w'.frozen? ⟨g, i * sz + c, none⟩ = false := by
 obtain ⟨g, ha, hF⟩ := hF.resolve_left h0
 rcases hR with h | ⟨b, off, ha', hB, hlt, hc⟩
 · exact absurd h h0
 rw [ha] at ha'
 cases ha'
 have h2 : 1 * 1 ≤ n * sz := Nat.mul_le_mul (by omega) hz
 rcases hF with hF | ⟨_, _, hF⟩
 · omega
 refine ⟨g, ha, hB, hlt, fun i hi c u hu => (hb.cell (p := ⟨g, i * sz + c, none⟩) hlt).trans (by have h := hc i hi c u hu; rwa [Nat.zero_add] at h), fun i hi c hcc => (hb.frozen (p := ⟨g, i * sz + c, none⟩) hlt).trans (hF _ ?_)⟩
 have h1 : (i + 1) * sz ≤ n * sz := Nat.mul_le_mul_right sz hi
 rw [Nat.succ_mul] at h1
 omega
theorem sl_m {B : Nat} {w w' : World} {x : SL} (h1 : BsF B w x) (h2 : TxW B w x) (hb : Bl w w') : TxM B w.heap.size w' x.a x.len := SL.own.marks ⟨h1, h2⟩ hb
theorem em_oz {B : Nat} {w w' : World} {g o : Nat} {e : ET} (h : e.ow B w) (hb : Bl w w') (hB : B ≤ g) (hC : g < w.heap.size) (cc : ∀ c u, (e.d.cells)[c]? = some u → w'.cell? ⟨g, o + c, none⟩ = some u) (ff : ∀ c, c < 8 → w'.frozen? ⟨g, o + c, none⟩ = false) : EM B w.heap.size w' g o e.d := by
 obtain ⟨hl, hw⟩ := h
 cases e with
 | nil => exact False.elim hl
 | mk d kid => exact ⟨hB, hC, ⟨⟨_, cc 0 _ rfl⟩, ff 0 (by omega)⟩, ⟨⟨_, cc 1 _ rfl⟩, ff 1 (by omega)⟩, ⟨⟨_, cc 3 _ rfl⟩, ff 3 (by omega)⟩, ⟨⟨_, cc 5 _ rfl⟩, ff 5 (by omega)⟩, ⟨⟨_, cc 6 _ rfl⟩, ff 6 (by omega)⟩, cc 2 _ rfl, sl_m hl.1 hw.1 hb, cc 4 _ rfl, sl_m (x := d.t.sl) hl.2.1 hw.2.1 hb, cc 7 _ rfl⟩
theorem km_oz {B : Nat} {w w' : World} (hb : Bl w w') (e : ET) (h : e.ow B w) : KM B w.heap.size w' e := by
 induction e with
 | nil => exact False.elim h.l
 | mk d kid ih =>
  obtain ⟨hl, hw⟩ := h
  by_cases h0 : d.n = 0
  · exact .inl h0
  obtain ⟨g, ha, hB, hC, cc, ff⟩ := row_oz hl.2.2.2.2.1 hw.2.2.1 hb h0 (by omega)
  exact .inr ⟨g, ha, fun i hi => ⟨em_oz ⟨hl.2.2.2.2.2 i hi, hw.2.2.2 i hi⟩ hb hB hC (cc i hi) (ff i hi), ih i ⟨hl.2.2.2.2.2 i hi, hw.2.2.2 i hi⟩⟩⟩
theorem tx_oz {B : Nat} {w w' : World} {a : Option Addr} {tb : List TB} (hl : TRowF B w a tb) (hz : RoZ B w a tb.length 4) (hx : ∀ x ∈ tb, TxW B w x.sl) (hb : Bl w w') : TsX B w.heap.size w' a tb.length (tbN tb) := by
 by_cases h0 : tb.length = 0
 · exact .inl h0
 have h1 : tb ≠ [] := fun e => h0 (by rw [e]; rfl)
 obtain ⟨g, ha, hF⟩ := hz.resolve_left h0
 obtain ⟨hR, hp, hs⟩ := hl
 rcases hR with h | ⟨b, off, ha', hlt, hc⟩
 · exact absurd h h1
 rw [ha] at ha'
 cases ha'
 rcases hF with hF | ⟨hB, _, hF⟩
 · omega
 refine .inr ⟨g, ha, fun i hi => ⟨?_, trivial⟩⟩
 have he : tbN tb i = tb[i] := by
  unfold tbN
  rw [List.getElem?_eq_getElem hi]
  rfl
 have cc := fun j u hu => (hb.cell (p := ⟨g, 0 + j, none⟩) hlt).trans (hc j u hu)
 obtain ⟨c0, c1, c2, c3⟩ := TRow.at cc i hi
 rw [Nat.zero_add] at c0 c1 c2 c3
 have ff : ∀ c, c < 4 → w'.frozen? ⟨g, i * 4 + c, none⟩ = false := fun c hcc => (hb.frozen (p := ⟨g, i * 4 + c, none⟩) hlt).trans (hF _ (by omega))
 rw [he]
 exact ⟨hB, hlt, ⟨⟨_, c0⟩, ff 0 (by omega)⟩, ⟨⟨_, c2⟩, ff 2 (by omega)⟩, ⟨⟨_, c3⟩, ff 3 (by omega)⟩, c1, sl_m (x := tb[i].sl) (hs _ (List.getElem_mem hi)).1 (hx _ (List.getElem_mem hi)) hb⟩
theorem px_oz {B : Nat} {w w' : World} {a : Option Addr} {n : Nat} {kid : Nat → PB} (hR : KRow B w 15 a n (fun i => (kid i).cells)) (hF : RoZ B w a n 15) (ho : ∀ i, i < n → (kid i).own B w) (hb : Bl w w') : PX B w.heap.size w' a n kid := by
 by_cases h0 : n = 0
 · exact .inl h0
 obtain ⟨g, ha, hB, hC, cc, ff⟩ := row_oz hR hF hb h0 (by omega)
 refine .inr ⟨g, ha, fun i hi => ⟨?_, trivial⟩⟩
 obtain ⟨o1, o2, o3⟩ := ho i hi
 have c := cc i hi
 have f := ff i hi
 have nn : ∀ q k, (kid i).cells[q]? = some (.int .i64 k) → q < 15 → WN w' g (i * 15 + q) := fun q k hq hl => ⟨⟨_, c q _ hq⟩, f q hl⟩
 exact ⟨hB, hC, nn 1 _ rfl (by omega), nn 3 _ rfl (by omega), nn 4 _ rfl (by omega), nn 6 _ rfl (by omega), nn 8 _ rfl (by omega), nn 9 _ rfl (by omega), nn 11 _ rfl (by omega), nn 13 _ rfl (by omega), nn 14 _ rfl (by omega),
  c 0 _ rfl, sl_m o1.1.1 o1.2.1 hb, c 2 _ rfl, sl_m (x := (kid i).s.t.sl) o1.1.2.1 o1.2.2 hb, c 5 _ rfl, sl_m o2.1.1 o2.2.1 hb, c 7 _ rfl, sl_m (x := (kid i).p.t.sl) o2.1.2.1 o2.2.2 hb, c 10 _ rfl, sl_m o3.1.1 o3.2.1 hb, c 12 _ rfl, sl_m (x := (kid i).o.t.sl) o3.1.2.1 o3.2.2 hb⟩
theorem et_oz {B : Nat} {w : World} {e : ET} (h : e.ow B w) : (BsF B w e.d.v ∧ TxW B w e.d.v) ∧ BsF B w e.d.t.sl ∧ TxW B w e.d.t.sl := by
 obtain ⟨hl, hw⟩ := h
 cases e with
 | nil => exact False.elim hl
 | mk d kid => exact ⟨⟨hl.1, hw.1⟩, hl.2.1, hw.2.1⟩
theorem am_oz {B : Nat} {w w' : World} {g o : Nat} {e : AT} (h : e.ow B w) (hb : Bl w w') (hB : B ≤ g) (hC : g < w.heap.size) (cc : ∀ c u, (e.d.cells)[c]? = some u → w'.cell? ⟨g, o + c, none⟩ = some u) (ff : ∀ c, c < 13 → w'.frozen? ⟨g, o + c, none⟩ = false) : AM B w.heap.size w' g o e.d := by
 obtain ⟨hl, hw⟩ := h
 cases e with
 | nil => exact False.elim hl
 | mk d kid =>
  obtain ⟨l1, l2, l3, l4, l5, l6, l7, l8, l9, l10⟩ := hl
  obtain ⟨z1, z2, z3, z4, ⟨z5, z6⟩, z7, z8⟩ := hw
  obtain ⟨⟨e1, e2⟩, e3, e4⟩ := et_oz ⟨l4, z3⟩
  have nn : ∀ q k, d.cells[q]? = some (.int .i64 k) → q < 13 → WN w' g (o + q) := fun q k hq hl => ⟨⟨_, cc q _ hq⟩, ff q hl⟩
  exact ⟨hB, hC, nn 0 _ rfl (by omega), nn 2 _ rfl (by omega), nn 3 _ rfl (by omega), nn 5 _ rfl (by omega), nn 7 _ rfl (by omega), nn 8 _ rfl (by omega), cc 4 _ rfl, sl_m e1 e2 hb, cc 6 _ rfl, sl_m (x := d.e.d.t.sl) e3 e4 hb, cc 10 _ rfl, sl_m l5 z4 hb, cc 1 _ rfl, cc 9 _ rfl, cc 11 _ rfl, cc 12 _ rfl, px_oz l1 z1 z2 hb, km_oz hb d.e ⟨l4, z3⟩, tx_oz l6 z5 z6 hb⟩
theorem bm_oz {B : Nat} {w w' : World} (hb : Bl w w') (e : AT) (h : e.ow B w) : BM B w.heap.size w' e := by
 induction e with
 | nil => exact False.elim h.l
 | mk d kid ih =>
  obtain ⟨hl, hw⟩ := h
  obtain ⟨l1, l2, l3, l4, l5, l6, l7, l8, l9, l10⟩ := hl
  obtain ⟨z1, z2, z3, z4, _, z7, z8⟩ := hw
  by_cases h0 : d.n = 0
  · exact .inl h0
  obtain ⟨g, ha, hB, hC, cc, ff⟩ := row_oz l9 z7 hb h0 (by omega)
  exact .inr ⟨g, ha, fun i hi => ⟨am_oz ⟨l10 i hi, z8 i hi⟩ hb hB hC (cc i hi) (ff i hi), ih i ⟨l10 i hi, z8 i hi⟩⟩⟩
theorem AT.ow.marks {B : Nat} {w w' : World} {e : AT} (h : e.ow B w) (hb : Bl w w') (hw : e.wt ≤ 3145728) : AMk B w.heap.size w' e := by
 have ht := e.tl_le
 unfold AT.tl at ht
 have hk := bm_oz hb e h
 obtain ⟨hl, hz⟩ := h
 cases e with
 | nil => exact False.elim hl
 | mk d kid =>
  obtain ⟨l1, l2, l3, l4, l5, l6, l7, l8, l9, l10⟩ := hl
  obtain ⟨z1, z2, z3, z4, ⟨z5, z6⟩, z7, z8⟩ := hz
  obtain ⟨⟨e1, e2⟩, e3, e4⟩ := et_oz ⟨l4, z3⟩
  exact ⟨px_oz l1 z1 z2 hb, ⟨sl_m e1 e2 hb, sl_m (x := d.e.d.t.sl) e3 e4 hb, km_oz hb d.e ⟨l4, z3⟩, (by show (d.e.ms.length : Int) ≤ _; change _ + (_ + _ + d.e.ms.length) + _ + _ + _ ≤ _ at ht; omega)⟩, sl_m l5 z4 hb, tx_oz l6 z5 z6 hb, hk, by omega, by omega, by omega⟩
theorem lm_oz {B : Nat} {w w' : World} {g o : Nat} {e : PT} (h : e.own B w) (hb : Bl w w') (hB : B ≤ g) (hC : g < w.heap.size) (cc : ∀ c u, (e.d.cells)[c]? = some u → w'.cell? ⟨g, o + c, none⟩ = some u) (ff : ∀ c, c < 28 → w'.frozen? ⟨g, o + c, none⟩ = false) : LM2 B w.heap.size w' g o e.d := by
 obtain ⟨hl, hw⟩ := h
 cases e with
 | nil => exact False.elim hl
 | mk d kid =>
  obtain ⟨lp, le, lv, lt, _, _, _, _⟩ := hl
  obtain ⟨⟨o1, o2, o3⟩, we, wv, wt, _, _⟩ := hw
  obtain ⟨⟨e1, e2⟩, e3, e4⟩ := et_oz ⟨le, we.wz⟩
  have nn : ∀ q k, d.cells[q]? = some (.int .i64 k) → q < 28 → WN w' g (o + q) := fun q k hq hl => ⟨⟨_, cc q _ hq⟩, ff q hl⟩
  exact ⟨hB, hC, nn 0 _ rfl (by omega), nn 1 _ rfl (by omega), nn 3 _ rfl (by omega), nn 5 _ rfl (by omega), nn 6 _ rfl (by omega), nn 8 _ rfl (by omega), nn 10 _ rfl (by omega), nn 11 _ rfl (by omega), nn 13 _ rfl (by omega), nn 15 _ rfl (by omega), nn 16 _ rfl (by omega), nn 17 _ rfl (by omega), nn 18 _ rfl (by omega), nn 20 _ rfl (by omega), nn 22 _ rfl (by omega), nn 23 _ rfl (by omega),
   cc 2 _ rfl, sl_m o1.1.1 o1.2.1 hb, cc 4 _ rfl, sl_m (x := d.p.s.t.sl) o1.1.2.1 o1.2.2 hb, cc 7 _ rfl, sl_m o2.1.1 o2.2.1 hb, cc 9 _ rfl, sl_m (x := d.p.p.t.sl) o2.1.2.1 o2.2.2 hb, cc 12 _ rfl, sl_m o3.1.1 o3.2.1 hb, cc 14 _ rfl, sl_m (x := d.p.o.t.sl) o3.1.2.1 o3.2.2 hb,
   cc 19 _ rfl, sl_m e1 e2 hb, cc 21 _ rfl, sl_m (x := d.e.d.t.sl) e3 e4 hb, cc 25 _ rfl, sl_m lv wv hb, cc 24 _ rfl, cc 26 _ rfl, cc 27 _ rfl, km_oz hb d.e ⟨le, we.wz⟩, tx_oz lt (.inr wt.1) wt.2 hb⟩
theorem qm_oz {B : Nat} {w w' : World} (hb : Bl w w') (e : PT) (h : e.own B w) : QM2 B w.heap.size w' e := by
 induction e with
 | nil => exact False.elim h.1
 | mk d kid ih =>
  obtain ⟨hl, hw⟩ := h
  by_cases h0 : d.n = 0
  · exact .inl h0
  obtain ⟨g, ha, hB, hC, cc, ff⟩ := row_oz hl.2.2.2.2.2.2.1 (.inr hw.2.2.2.2.1) hb h0 (by omega)
  exact .inr ⟨g, ha, fun i hi => ⟨lm_oz ⟨hl.2.2.2.2.2.2.2 i hi, hw.2.2.2.2.2 i hi⟩ hb hB hC (cc i hi) (ff i hi), ih i ⟨hl.2.2.2.2.2.2.2 i hi, hw.2.2.2.2.2 i hi⟩⟩⟩
theorem PT.own.marks {B : Nat} {w w' : World} {e : PT} (h : e.own B w) (hb : Bl w w') (hw : e.wt ≤ 1048576) : PMk B w.heap.size w' e := by
 have ht := e.tl_le
 unfold PT.tl at ht
 have hk := qm_oz hb e h
 obtain ⟨hl, hz⟩ := h
 cases e with
 | nil => exact False.elim hl
 | mk d kid =>
  obtain ⟨lp, le, lv, lt, _, _, _, _⟩ := hl
  obtain ⟨⟨o1, o2, o3⟩, we, wv, wt, _, _⟩ := hz
  obtain ⟨⟨e1, e2⟩, e3, e4⟩ := et_oz ⟨le, we.wz⟩
  exact ⟨⟨sl_m o1.1.1 o1.2.1 hb, sl_m (x := d.p.s.t.sl) o1.1.2.1 o1.2.2 hb⟩, ⟨sl_m o2.1.1 o2.2.1 hb, sl_m (x := d.p.p.t.sl) o2.1.2.1 o2.2.2 hb⟩, ⟨sl_m o3.1.1 o3.2.1 hb, sl_m (x := d.p.o.t.sl) o3.1.2.1 o3.2.2 hb⟩, ⟨sl_m e1 e2 hb, sl_m (x := d.e.d.t.sl) e3 e4 hb, km_oz hb d.e ⟨le, we.wz⟩, (by show (d.e.ms.length : Int) ≤ _; change _ + (_ + _ + d.e.ms.length) + _ + _ + _ ≤ _ at ht; omega)⟩, sl_m lv wv hb, tx_oz lt (.inr wt.1) wt.2 hb, hk, by omega, by omega⟩
theorem AT.held {B C : Nat} {w w' : World} {e : AT} {a b : Int} (h : Mkd B C w w' e.tms a b) (hf : e.fp.Nodup) : Hl w' e.tms a := h.held (AT.once hf)
theorem Tz.new0w (w : World) (b : Nat) (e : b = w.heap.size) : Tz (w.alloc (.cells #[] 5)) b (some ⟨b, 0, none⟩) 0 0 [] := by
 subst e
 exact Tz.new0v w
theorem Tz.owns {w' : World} {B : Nat} {a : Option Addr} {len cap : Nat} {bs : List Int} (h : Tz w' B a len cap bs) : (SL.mk a len cap bs).own B w' ∧ Cp B w'.heap.size (SL.mk a len cap bs).fp := by
 obtain ⟨hb, hz⟩ := h
 by_cases h0 : len = 0
 · refine ⟨⟨⟨hb, .inl h0⟩, .inl h0⟩, ?_⟩
   unfold SL.fp
   rw [if_pos h0]
   exact Cp.nil _ _
 rcases hz with ⟨_, h, _⟩ | ⟨g, rfl, hB, hg, hl, hc⟩
 · exact absurd h h0
 refine ⟨⟨⟨hb, .inr fun p hp => by cases hp; exact hB⟩, .inr ⟨g, rfl, hB, hg, fun i hi => (hc i (Nat.lt_of_lt_of_le hi hl)).2⟩⟩, ?_⟩
 unfold SL.fp
 rw [if_neg h0]
 exact ⟨List.nodup_cons.2 ⟨by simp, List.nodup_nil⟩, fun b hb => by rw [List.mem_singleton] at hb; rw [hb]; exact ⟨hB, hg⟩⟩
theorem l2ownT (t : TB) (w : World) (h : BsF 0 w t.sl) (hf : t.t.fits) : Calls Tryz.prog 116 #[.agg #[.int .i64 t.t.k, .slice t.t.a t.t.len t.t.cap, .int .i64 t.t.n, .int .i64 t.t.s]] w fun e w' => ∃ y : TB, e = .returned (.agg #[.int .i64 y.t.k, .slice y.t.a y.t.len y.t.cap, .int .i64 y.t.n, .int .i64 y.t.s]) ∧ y.own w.heap.size w' ∧ Cp w.heap.size w'.heap.size y.fp ∧ t.td = y.td ∧ Bl w w' := by
 have HF := iH hf
 have hl : t.t.len ≤ 1048576 := h.1.2.1
 have HX : Hd (OB ((w.alloc (.cells #[.int .i64 t.t.k, .slice t.t.a t.t.len t.t.cap, .int .i64 t.t.n, .int .i64 t.t.s] 35)).alloc (.cells #[.int .i64 0, .slice none 0 0, .int .i64 0, .int .i64 0] 35)) w.heap.size [.int .i64 t.t.k, .slice t.t.a t.t.len t.t.cap, .int .i64 t.t.n, .int .i64 t.t.s]) := (OB.new w #[.int .i64 t.t.k, .slice t.t.a t.t.len t.t.cap, .int .i64 t.t.n, .int .i64 t.t.s] 35).below (bl_a _)
 have HO : Hd (OB ((w.alloc (.cells #[.int .i64 t.t.k, .slice t.t.a t.t.len t.t.cap, .int .i64 t.t.n, .int .i64 t.t.s] 35)).alloc (.cells #[.int .i64 0, .slice none 0 0, .int .i64 0, .int .i64 0] 35)) (w.heap.size + 1) [.int .i64 0, .slice none 0 0, .int .i64 0, .int .i64 0]) := (show OB _ _ _ by have h := OB.new (w.alloc (.cells #[.int .i64 t.t.k, .slice t.t.a t.t.len t.t.cap, .int .i64 t.t.n, .int .i64 t.t.s] 35)) #[.int .i64 0, .slice none 0 0, .int .i64 0, .int .i64 0] 35; simpa using h)
 have HB : Hd (Bl w ((w.alloc (.cells #[.int .i64 t.t.k, .slice t.t.a t.t.len t.t.cap, .int .i64 t.t.n, .int .i64 t.t.s] 35)).alloc (.cells #[.int .i64 0, .slice none 0 0, .int .i64 0, .int .i64 0] 35))) := bl_alloc (bl_a _) _
 have HTB := iH h
 clear h hf
 go_in
 go_upto_region 1 with fail
 generalize ((w.alloc _).alloc _) = W1 at *
 have HG : Hd (w.heap.size + 1 < W1.heap.size) := HO.o.1
 have HTX := iH (Tz.new0w W1 W1.heap.size rfl)
 have HBX := iH ((HTB.o.upper (uB HB.o)).upper (uB (bl_a (w := W1) (.cells #[] 5))))
 have HSX : Hd (Src Tryz.prog 1 23 (.slice t.t.a t.t.len t.t.cap) t.t.len (t.b.map (Value.int .u8)) (W1.alloc (.cells #[] 5))) := src_bs HBX.o.1
 have HYX : Hd (Byt ([] ++ t.b)) := Byt.of HBX.o.1.2.2.1
 have hBX : W1.heap.size ≤ (W1.alloc (.cells #[] 5)).heap.size := by simp
 have HX2 := iH (HX.o.below (bl_a (w := W1) (.cells #[] 5)))
 have x1 := (HX2.o.2 1 _ rfl).1
 go_wp2_with (refine list_app8z rfl (.tmp 3) (.tmp 5) 23 rfl W1.heap.size 0 0 (some ⟨W1.heap.size, 0, none⟩) [] rfl HTX (.slice t.t.a t.t.len t.t.cap) t.t.len t.b rfl (fun h => by cases h) HSX HYX t.t.len (Nat.zero_add _) t.b (List.nil_append _) (by omega) hBX ?_; intro g4 c4 w4 HT4 HD4; have HB4 := iH ((bl_a (w := W1) (.cells #[] 5)).trans HD4.o); have HX4 := iH (HX.o.below HB4.o); have HO4 := iH (HO.o.below HB4.o); have y0 := (HX4.o.2 0 _ rfl).1; have y1 := (HX4.o.2 1 _ rfl).1; have y2 := (HX4.o.2 2 _ rfl).1; have y3 := (HX4.o.2 3 _ rfl).1; have f1 := (HX4.o.2 1 _ rfl).2; have z0 := (HO4.o.2 0 _ rfl).1; have z1 := (HO4.o.2 1 _ rfl).1; have z2 := (HO4.o.2 2 _ rfl).1; have z3 := (HO4.o.2 3 _ rfl).1; have g0 := (HO4.o.2 0 _ rfl).2; have g1 := (HO4.o.2 1 _ rfl).2; have g2 := (HO4.o.2 2 _ rfl).2; have g3 := (HO4.o.2 3 _ rfl).2)
 refine bodyPost_ret (v := .agg #[.int .i64 t.t.k, .slice (some ⟨g4, 0, none⟩) t.t.len c4, .int .i64 t.t.n, .int .i64 t.t.s]) (by simp [results, Tryz.results116, go_sem, *]) rfl ?_
 have ho := HT4.o.owns
 have hg := HG.o
 have hu : ∀ (W : World) (v : Value) (b i : Nat), b < W1.heap.size → Upper W1.heap.size W (W.setCell ⟨b, i, none⟩ v) := fun W v b i hb => (upper_set (w := W) (g := b) (i := i) v).mono hb
 have hU := (hu w4 (.slice (some ⟨g4, 0, none⟩) t.t.len c4) w.heap.size 1 (by omega))
 have hb5 : Bl w w4 := HB.o.trans (HB4.o.mono HB.o.size)
 refine ⟨⟨⟨t.t.k, some ⟨g4, 0, none⟩, t.t.len, c4, t.t.n, t.t.s⟩, t.b⟩, rfl, ?_, ?_, rfl, ?_⟩
 · have h6 : TB.own W1.heap.size w4 ⟨⟨t.t.k, some ⟨g4, 0, none⟩, t.t.len, c4, t.t.n, t.t.s⟩, t.b⟩ := ⟨⟨ho.1.1, HF.o⟩, ho.1.2⟩
   exact (((((h6.upper hU).upper (hu _ _ (w.heap.size + 1) 0 (by omega))).upper (hu _ _ (w.heap.size + 1) 1 (by omega))).upper (hu _ _ (w.heap.size + 1) 2 (by omega))).upper (hu _ _ (w.heap.size + 1) 3 (by omega))).base (by omega)
 · refine Cp.mono ho.2 (by omega) ?_
   simp
 exact bl_set (bl_set (bl_set (bl_set (bl_set hb5 nR _) (by show w.heap.size ≤ w.heap.size + 1; omega) _) (by show w.heap.size ≤ w.heap.size + 1; omega) _) (by show w.heap.size ≤ w.heap.size + 1; omega) _) (by show w.heap.size ≤ w.heap.size + 1; omega) _
end Go.Proofs.YtoloadogihbdeaaGreat
