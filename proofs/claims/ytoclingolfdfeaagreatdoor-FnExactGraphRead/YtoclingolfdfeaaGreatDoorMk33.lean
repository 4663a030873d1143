/- Texts put together: LxS LxT LxU LxV LxW -/
import Derived.Test.YtoclingolfdfeaaGreatDoorMk09
import Derived.Test.YtoclingolfdfeaaGreatDoorMk25
import Derived.Test.YtoclingolfdfeaaGreatDoorMk08
import Derived.Test.YtoclingolfdfeaaGreatDoorMk32
import Derived.Test.YtoclingolfdfeaaGreatDoorMk30
/- LxS -/
namespace Go.Proofs.YtoclingolfdfeaaGreatDoor
open Go.RowKit Go.Deep
set_option maxRecDepth 100000

def G1.tm (y : G1) : Nat → Tm
  | 0 => y.t
  | 1 => y.u
  | _ => y.v
def Q3.tv (q : Q3) : Nat → TV
  | 0 => q.1
  | 1 => q.2.1
  | _ => q.2.2
theorem Q3.tm_tv (q : Q3) (c : Nat) : q.g.tm c = (q.tv c).t.t := by
  rcases (by omega : c = 0 ∨ c = 1 ∨ 2 ≤ c) with rfl | rfl | h
  · rfl
  · rfl
  · obtain ⟨d, rfl⟩ : ∃ d, c = d + 2 := ⟨c - 2, by omega⟩
    rfl
theorem Q3.tv_mem (q : Q3) (c : Nat) : q.tv c ∈ q.tvs := by
  rcases (by omega : c = 0 ∨ c = 1 ∨ 2 ≤ c) with rfl | rfl | h
  · simp [Q3.tv, Q3.tvs]
  · simp [Q3.tv, Q3.tvs]
  · obtain ⟨d, rfl⟩ : ∃ d, c = d + 2 := ⟨c - 2, by omega⟩
    simp [Q3.tv, Q3.tvs]
/-- Term i of a row of triples. -/
def gT (r : List G1) (i : Nat) : Tm := match r[i / 3]? with
  | some y => y.tm (i % 3)
  | none => ⟨0, none, 0, 0, 0, 0⟩
def gX (r : List G1) (i : Nat) : Option Addr := (gT r i).a
def gL (r : List G1) (i : Nat) : Nat := (gT r i).len
def gC (r : List G1) (i : Nat) : Nat := (gT r i).cap
theorem gAt {r : List G1} {i : Nat} (hi : i < 3 * r.length) : ∃ y, r[i / 3]? = some y ∧ y ∈ r ∧ gT r i = y.tm (i % 3) := by
  have h : i / 3 < r.length := by omega
  exact ⟨r[i / 3], List.getElem?_eq_getElem h, List.getElem_mem h, by simp only [gT, List.getElem?_eq_getElem h]⟩
theorem Apart.symm {x y : TV} (h : Apart x y) : Apart y x := fun g g' h1 h2 e => h g' g h2 h1 e.symm
theorem pw_ne {α : Type} {R : α → α → Prop} (hs : ∀ x y, R x y → R y x) {l : List α} (h : l.Pairwise R) : ∀ a ∈ l, ∀ b ∈ l, a ≠ b → R a b := by
  induction h with
  | nil => intro a ha; cases ha
  | @cons x l hx hl ih =>
    intro a ha b hb hab
    rcases List.mem_cons.1 ha with rfl | ha2
    · rcases List.mem_cons.1 hb with rfl | hb
      · exact absurd rfl hab
      · exact hx b hb
    · rcases List.mem_cons.1 hb with rfl | hb
      · exact hs _ _ (hx a ha2)
      · exact ih a ha2 b hb hab
theorem Nw.tx {w : World} {B : Nat} {a : Option Addr} {len : Nat} {bs : List Int} (h : Nw w B a len bs) : TxW w a len := by
  rcases h with ⟨_, rfl, _⟩ | ⟨g, rfl, _, h1, h2, h3, h4⟩
  · exact ⟨by omega, .inl rfl⟩
  · exact ⟨h1.2.1, .inr ⟨g, rfl, h2, fun i hi => ⟨h3 i hi, h4 i hi⟩⟩⟩
theorem G1.nw.tm {y : G1} {w : World} {B : Nat} (h : y.nw w B) (c : Nat) : TxW w (y.tm c).a (y.tm c).len := by
  rcases (by omega : c = 0 ∨ c = 1 ∨ 2 ≤ c) with rfl | rfl | hc
  · exact h.1.tx
  · exact h.2.1.tx
  · obtain ⟨d, rfl⟩ : ∃ d, c = d + 2 := ⟨c - 2, by omega⟩
    exact h.2.2.tx
theorem G1.ahead.tm {y : G1} {C : Nat} (h : y.ahead C) (c : Nat) (p : Addr) (hp : (y.tm c).a = some p) : p.block < C := by
  rcases (by omega : c = 0 ∨ c = 1 ∨ 2 ≤ c) with rfl | rfl | hc
  · exact h p (.inl hp)
  · exact h p (.inr (.inl hp))
  · obtain ⟨d, rfl⟩ : ∃ d, c = d + 2 := ⟨c - 2, by omega⟩
    exact h p (.inr (.inr hp))
theorem q3_pw {q : Q3} (h : q.tvs.Pairwise Apart) {c d : Nat} (hc : c < 3) (hd : d < 3) (hne : c ≠ d) : Apart (q.tv c) (q.tv d) := by
  have h := h
  simp only [Q3.tvs, List.pairwise_cons, List.mem_cons, List.not_mem_nil, or_false] at h
  have h01 : Apart q.1 q.2.1 := h.1 _ (.inl rfl)
  have h02 : Apart q.1 q.2.2 := h.1 _ (.inr rfl)
  have h12 : Apart q.2.1 q.2.2 := h.2.1 _ rfl
  rcases (by omega : c = 0 ∨ c = 1 ∨ c = 2) with rfl | rfl | rfl <;> rcases (by omega : d = 0 ∨ d = 1 ∨ d = 2) with rfl | rfl | rfl
  · exact absurd rfl hne
  · exact h01
  · exact h02
  · exact h01.symm
  · exact absurd rfl hne
  · exact h12
  · exact h02.symm
  · exact h12.symm
  · exact absurd rfl hne
theorem mtt_of {w' : World} {B C g cap : Nat} {r : List G1} (hO : OwnG w' C (.slice (some ⟨g, 0, none⟩) r.length cap) r) (hah : ∀ y ∈ r, y.ahead C) {ql : List Q3} (hq : ∀ y ∈ r, ∃ q ∈ ql, y = q.g) (hpw : (ql.flatMap Q3.tvs).Pairwise Apart) (hasc : (r.map G1.td3).Pairwise (fun x y => cmpD x y < 0)) (htxt : ∀ y ∈ r, y.nw w' B) : MTT w' g (3 * r.length) (gX r) (gL r) (gC r) := by
  have hgC : C ≤ g := (hO.2 g rfl).1
  rw [List.pairwise_flatMap] at hpw
  refine ⟨fun j hj => ?_, fun j _ => ownG_fr hO j, fun i hi => ?_, fun i hi => ?_, fun i hi => ?_, fun i j hi hj ij p hp hl => ?_⟩
  · have hi : j / 12 < r.length := by omega
    obtain ⟨x0, x1, x2, x3, x4, x5, x6, x7, x8, x9, xa, xb⟩ := ownG_at hO (j / 12) _ (List.getElem?_eq_getElem hi)
    have hj12 : j = j / 12 * 12 + j % 12 := by omega
    have hlt : j % 12 < 12 := Nat.mod_lt _ (by omega)
    generalize j / 12 * 12 = o at *
    generalize j % 12 = c at *
    subst hj12
    rcases (by omega : c = 0 ∨ c = 1 ∨ c = 2 ∨ c = 3 ∨ c = 4 ∨ c = 5 ∨ c = 6 ∨ c = 7 ∨ c = 8 ∨ c = 9 ∨ c = 10 ∨ c = 11) with rfl | rfl | rfl | rfl | rfl | rfl | rfl | rfl | rfl | rfl | rfl | rfl
    · exact ⟨_, x0⟩
    · exact ⟨_, x1⟩
    · exact ⟨_, x2⟩
    · exact ⟨_, x3⟩
    · exact ⟨_, x4⟩
    · exact ⟨_, x5⟩
    · exact ⟨_, x6⟩
    · exact ⟨_, x7⟩
    · exact ⟨_, x8⟩
    · exact ⟨_, x9⟩
    · exact ⟨_, xa⟩
    · exact ⟨_, xb⟩
  · obtain ⟨y, hy, _, e⟩ := gAt hi
    obtain ⟨_, x1, _, _, _, x5, _, _, _, x9, _, _⟩ := ownG_at hO (i / 3) y hy
    unfold gX gL gC
    rw [e]
    rcases (by omega : i % 3 = 0 ∨ i % 3 = 1 ∨ i % 3 = 2) with h3 | h3 | h3 <;> rw [h3]
    · rw [show i * 4 + 1 = i / 3 * 12 + 1 by omega]; exact x1
    · rw [show i * 4 + 1 = i / 3 * 12 + 5 by omega]; exact x5
    · rw [show i * 4 + 1 = i / 3 * 12 + 9 by omega]; exact x9
  · obtain ⟨y, hy, hm, e⟩ := gAt hi
    unfold gX gL
    rw [e]
    exact (htxt y hm).tm _
  · obtain ⟨y, hy, hm, e⟩ := gAt hi
    unfold gX gL
    rw [e]
    refine .inr fun p hp e => ?_
    have := (hah y hm).tm _ p hp
    omega
  · obtain ⟨y, hy, hm, e⟩ := gAt hi
    obtain ⟨z, hz, hmz, e'⟩ := gAt hj
    unfold gX at hp
    rw [e'] at hp
    unfold gX gL
    rw [e]
    refine .inr fun p' hp' hb => ?_
    obtain ⟨q, hq1, rfl⟩ := hq y hm
    obtain ⟨q', hq2, rfl⟩ := hq z hmz
    rw [Q3.tm_tv] at hp hp'
    have hap : Apart (q.tv (i % 3)) (q'.tv (j % 3)) := by
      by_cases hd : i / 3 = j / 3
      · rw [hd, hz] at hy
        have hg : q'.g = q.g := Option.some.inj hy
        by_cases hqq : q = q'
        · subst hqq
          exact q3_pw (hpw.1 q hq1) (by omega) (by omega) (by omega)
        · exact pw_ne (fun a b hab x hx y hy => (hab y hy x hx).symm) hpw.2 q hq1 q' hq2 hqq _ (Q3.tv_mem _ _) _ (Q3.tv_mem _ _)
      · have hne : q ≠ q' := by
          rintro rfl
          have hs := hasc
          have h1 : (r.map G1.td3)[i / 3]? = some q.g.td3 := by rw [List.getElem?_map, hy]; rfl
          have h2 : (r.map G1.td3)[j / 3]? = some q.g.td3 := by rw [List.getElem?_map, hz]; rfl
          obtain ⟨b1, b2⟩ := List.getElem?_eq_some_iff.1 h1
          obtain ⟨b3, b4⟩ := List.getElem?_eq_some_iff.1 h2
          have hself : ¬ cmpD q.g.td3 q.g.td3 < 0 := by
            have := ord_cmpD.self q.g.td3
            omega
          rcases Nat.lt_or_gt_of_ne hd with c | c
          · have := List.pairwise_iff_getElem.1 hs _ _ b1 b3 c
            rw [b2, b4] at this
            exact hself this
          · have := List.pairwise_iff_getElem.1 hs _ _ b3 b1 c
            rw [b2, b4] at this
            exact hself this
        exact pw_ne (fun a b hab x hx y hy => (hab y hy x hx).symm) hpw.2 q hq1 q' hq2 hne _ (Q3.tv_mem _ _) _ (Q3.tv_mem _ _)
    exact hap p'.block p.block (by rw [TV.blk, hp']; rfl) (by rw [TV.blk, hp]; rfl) hb

theorem markGraph_own (g n cap : Nat) (X : Nat → Option Addr) (L Cp : Nat → Nat) (k : Int) (w : World) (hn : n ≤ 1048576) (hk : 0 ≤ k) (hp : ∀ i, i ≤ 3 * n → posT L k i ≤ 4194000) (hM : ∀ o, MTT (w.alloc o) g (3 * n) X L Cp) :
    Calls Tryz.prog 25 #[.agg #[.slice (some ⟨g, 0, none⟩) n cap], .int .i64 k] w fun e w' => e = .returned (.int .i64 (posT L k (3 * n))) ∧ (∀ i, i < 3 * n → MdT w' g X L Cp (posT L k i) i) ∧ ∃ o, Only (InT g (3 * n) X L) (w.alloc o) w' := by
  go_enter Tryz.func25, Tryz.ntmps25
  go_wp2_with fail
  refine (markTriples_own g n cap X L Cp k _ hn hk hp (hM _)).mono ?_
  rintro e w1 ⟨rfl, hD, hO⟩
  have HD : Hid (∀ i, i < 3 * n → MdT w1 g X L Cp (posT L k i) i) := hD
  have HO : Hid (∃ o, Only (InT g (3 * n) X L) (w.alloc o) w1) := ⟨_, hO⟩
  clear hD hM hO
  go_wp2_with fail
  go_ret
  exact ⟨rfl, HD.out, HO.out⟩
theorem heldGraph_own (g n cap : Nat) (X : Nat → Option Addr) (L Cp : Nat → Nat) (k : Int) (w : World) (hn : n ≤ 1048576) (hk : 0 ≤ k) (hp : ∀ i, i ≤ 3 * n → posT L k i ≤ 4194000) (hl : ∀ i, i < 3 * n → L i ≤ 1048576) (hg : g < w.heap.size) (hM : ∀ i, i < 3 * n → MdT w g X L Cp (posT L k i) i) :
    Calls Tryz.prog 26 #[.agg #[.slice (some ⟨g, 0, none⟩) n cap], .int .i64 k] w fun e w' => e = .returned (.int .i64 (posT L k (3 * n))) ∧ Below w.heap.size w w' := by
  have hpos : ¬ posT L k (3 * n) < 0 := by have := posT_le L k (3 * n); omega
  go_enter Tryz.func26, Tryz.ntmps26
  go_wp2_with fail
  refine (heldTriples_own g n cap X L Cp k _ hn hk hp hl (fun i hi => (hM i hi).below hg (bl_a _))).mono ?_
  rintro e w1 ⟨rfl, rfl⟩
  clear hM
  go_wp2_with fail
  go_ret
  exact ⟨rfl, bl_a _⟩
theorem markGraph_zero (a : Option Addr) (cap : Nat) (k : Int) (w : World) :
    Calls Tryz.prog 25 #[.agg #[.slice a 0 cap], .int .i64 k] w fun e w' => e = .returned (.int .i64 k) ∧ Below w.heap.size w w' := by
  go_enter Tryz.func25, Tryz.ntmps25
  go_wp2_with fail
  refine (markTriples_zero a cap k _).mono ?_
  rintro e w1 ⟨rfl, rfl⟩
  go_wp2_with fail
  go_ret
  exact ⟨rfl, bl_a _⟩
theorem heldGraph_zero (a : Option Addr) (cap : Nat) (k : Int) (w : World) (hk : 0 ≤ k) :
    Calls Tryz.prog 26 #[.agg #[.slice a 0 cap], .int .i64 k] w fun e w' => e = .returned (.int .i64 k) ∧ Below w.heap.size w w' := by
  have hpos : ¬ k < 0 := by omega
  go_enter Tryz.func26, Tryz.ntmps26
  go_wp2_with fail
  refine (heldTriples_zero a cap k _).mono ?_
  rintro e w1 ⟨rfl, rfl⟩
  go_wp2_with fail
  go_ret
  exact ⟨rfl, bl_a _⟩
end Go.Proofs.YtoclingolfdfeaaGreatDoor

/- LxT -/
namespace Go.Proofs.YtoclingolfdfeaaGreatDoor
open Go.RowKit Go.Deep
set_option maxRecDepth 100000

theorem Reads.fn {bs : List Int} {len : Nat} {ts ts' : List T3} (h : Reads bs len ts) (h' : Reads bs len ts') : ts = ts' := by
  obtain ⟨toks, h1, h2⟩ := h
  obtain ⟨toks', h3, h4⟩ := h'
  rw [h1] at h3
  cases h3
  rw [h2] at h4
  cases h4
  rfl
theorem OnceT.fn {ts l l' : List T3} (h : OnceT ts l) (h' : OnceT ts l') (hf : ∀ x ∈ l, fine3 x) : l = l' :=
  asc_unique ordP_cmpD l l' hf (fun y hy => hf y ((h.mem y).2 ((h'.mem y).1 hy))) h.asc h'.asc (fun x => (h.mem x).trans (h'.mem x).symm)
theorem Refuses.fn {bs : List Int} {len : Nat} {c p c' p' : Int} (h : Refuses bs len c p) (h' : Refuses bs len c' p') : c = c' ∧ p = p' := by
  cases h with
  | long h1 =>
    cases h' with
    | long h2 => exact ⟨rfl, rfl⟩
    | byte q h2 h3 => omega
    | form t q h2 h3 h4 => omega
    | many t l h2 h3 h4 h5 => omega
  | byte q0 h1 hb =>
    cases h' with
    | long h2 => omega
    | byte q h2 h3 =>
      rw [hb] at h3
      cases h3
      exact ⟨rfl, rfl⟩
    | form t q h2 h3 h4 =>
      rw [hb] at h3
      cases h3
    | many t l h2 h3 h4 h5 =>
      obtain ⟨tk, h6, _⟩ := h3
      rw [hb] at h6
      cases h6
  | form t0 q0 h1 hb hc =>
    cases h' with
    | long h2 => omega
    | byte q h2 h3 =>
      rw [hb] at h3
      cases h3
    | form t q h2 h3 h4 =>
      rw [hb] at h3
      cases h3
      rw [hc] at h4
      cases h4
      exact ⟨rfl, rfl⟩
    | many t l h2 h3 h4 h5 =>
      obtain ⟨tk, h6, h7⟩ := h3
      rw [hb] at h6
      cases h6
      rw [hc] at h7
      cases h7
  | many t0 l0 h1 hb hc hd =>
    cases h' with
    | long h2 => omega
    | byte q h2 h3 =>
      obtain ⟨tk, h6, _⟩ := hb
      rw [h3] at h6
      cases h6
    | form t q h2 h3 h4 =>
      obtain ⟨tk, h6, h7⟩ := hb
      rw [h3] at h6
      cases h6
      rw [h4] at h7
      cases h7
    | many t l h2 h3 h4 h5 => exact ⟨rfl, rfl⟩
theorem Refuses.not {bs : List Int} {len : Nat} {c p : Int} {ts l : List T3} (h : Refuses bs len c p) (h1 : len ≤ 3000) (h2 : Reads bs len ts) (h3 : OnceT ts l) (h4 : l.length ≤ 60) (hf : ∀ x ∈ l, fine3 x) : False := by
  cases h with
  | long h5 => omega
  | byte q h5 h6 =>
    obtain ⟨tk, h7, _⟩ := h2
    rw [h6] at h7
    cases h7
  | form t q h5 h6 h7 =>
    obtain ⟨tk, h8, h9⟩ := h2
    rw [h6] at h8
    cases h8
    rw [h7] at h9
    cases h9
  | many t l' h5 h6 h7 h8 =>
    obtain rfl := h2.fn h6
    have := h3.fn h7 hf
    subst this
    omega
/-- What is to be answered of a text: the triples, the code, the place. -/
def Answ (bs : List Int) (len : Nat) (D : List T3) (c p : Int) : Prop :=
  (Refuses bs len c p ∧ D = []) ∨ (c = 0 ∧ p = 0 ∧ len ≤ 3000 ∧ D.length ≤ 60 ∧ ∃ ts, Reads bs len ts ∧ OnceT ts D)
theorem Answ.fn {bs : List Int} {len : Nat} {D D' : List T3} {c p c' p' : Int} (h : Answ bs len D c p) (h' : Answ bs len D' c' p') (hf : ∀ x ∈ D, fine3 x) (hf' : ∀ x ∈ D', fine3 x) : D = D' ∧ c = c' ∧ p = p' := by
  rcases h with ⟨h1, rfl⟩ | ⟨rfl, rfl, h1, h2, ts, h3, h4⟩
  · rcases h' with ⟨h5, rfl⟩ | ⟨rfl, rfl, h5, h6, ts', h7, h8⟩
    · exact ⟨rfl, h1.fn h5⟩
    · exact (h1.not h5 h7 h8 h6 hf').elim
  · rcases h' with ⟨h5, rfl⟩ | ⟨rfl, rfl, h5, h6, ts', h7, h8⟩
    · exact (h5.not h1 h3 h4 h2 hf).elim
    · obtain rfl := h3.fn h7
      exact ⟨h4.fn h8 hf, rfl, rfl⟩
theorem G1.good.fine {y : G1} (h : y.good) : fine3 y.td3 := by
  have hk := h.2.2.2
  unfold tripleOk at hk
  simp only [Bool.and_eq_true, decide_eq_true_eq, beq_iff_eq] at hk
  obtain ⟨⟨⟨⟨h1, h2⟩, h3⟩, h4⟩, h5⟩ := hk
  exact okT.fine ⟨h1, h2, h3, h4, h5⟩
theorem td3_like {y z : G1} (h : y.td3 = z.td3) : (y.t.like z.t ∧ y.bt = z.bt) ∧ (y.u.like z.u ∧ y.bu = z.bu) ∧ y.v.like z.v ∧ y.bv = z.bv := by
  simp only [G1.td3, Prod.mk.injEq, TD.mk.injEq] at h
  obtain ⟨⟨a1, a2, a3, a4⟩, ⟨b1, b2, b3, b4⟩, c1, c2, c3, c4⟩ := h
  exact ⟨⟨⟨a1, a3, a4⟩, a2⟩, ⟨⟨b1, b3, b4⟩, b2⟩, ⟨c1, c3, c4⟩, c2⟩
/-- Two rows of the same triples are equal. -/
theorem eqGraph_own (a a' : Option Addr) (cap cap' : Nat) (l r : List G1) (w : World) (B B' : Nat) (hl : l.length ≤ 1048576) (hO : OwnG w B (.slice a l.length cap) l) (hO' : OwnG w B' (.slice a' r.length cap') r) (h : ∀ y ∈ l, y.lies w) (h' : ∀ y ∈ r, y.lies w) (e : l.map G1.td3 = r.map G1.td3) :
    Calls Tryz.prog 22 #[.agg #[.slice a l.length cap], .agg #[.slice a' r.length cap']] w fun e w' => e = .returned (.bool true) ∧ Below w.heap.size w w' := by
  have hn : r.length = l.length := by
    have h1 := congrArg List.length e
    rw [List.length_map, List.length_map] at h1
    exact h1.symm
  have hR := rows_gA hO
  have hR' := rows_gA hO'
  rw [hn] at hR' ⊢
  have hlk : ∀ i, i < l.length → (gA l i).td3 = (gA r i).td3 := fun i hi => by
    have h1 : (l.map G1.td3)[i]? = (r.map G1.td3)[i]? := by rw [e]
    rw [List.getElem?_map, List.getElem?_map, List.getElem?_eq_getElem hi, List.getElem?_eq_getElem (by omega)] at h1
    rw [gA_at hi, gA_at (by omega)]
    exact Option.some.inj h1
  have hm : ∀ i, i < l.length → gA l i ∈ l := fun i hi => by rw [gA_at hi]; exact List.getElem_mem hi
  have hm' : ∀ i, i < l.length → gA r i ∈ r := fun i hi => by rw [gA_at (by omega)]; exact List.getElem_mem (by omega)
  refine eqGraph_like a a' l.length cap cap' _ _ _ _ _ _ (fun i => (gA l i).bt) (fun i => (gA l i).bu) (fun i => (gA l i).bv) w hl hR hR' (fun i hi => (h _ (hm i hi)).1) (fun i hi => (h _ (hm i hi)).2.1) (fun i hi => (h _ (hm i hi)).2.2) (fun i hi => ?_) (fun i hi => ?_) (fun i hi => ?_) (fun i hi => (td3_like (hlk i hi)).1.1) (fun i hi => (td3_like (hlk i hi)).2.1.1) (fun i hi => (td3_like (hlk i hi)).2.2.1)
  · show Bs w (gA r i).t.a (gA r i).t.len (gA l i).bt
    rw [(td3_like (hlk i hi)).1.2]
    exact (h' _ (hm' i hi)).1
  · show Bs w (gA r i).u.a (gA r i).u.len (gA l i).bu
    rw [(td3_like (hlk i hi)).2.1.2]
    exact (h' _ (hm' i hi)).2.1
  · show Bs w (gA r i).v.a (gA r i).v.len (gA l i).bv
    rw [(td3_like (hlk i hi)).2.2.2]
    exact (h' _ (hm' i hi)).2.2
/-- A graph that was answered: where it lies. -/
def GLies (w : World) (B : Nat) (a : Option Addr) (cap : Nat) (r : List G1) : Prop := r.length ≤ 60 ∧ OwnG w B (.slice a r.length cap) r ∧ (∀ y ∈ r, y.lies w) ∧ ∀ y ∈ r, fine3 y.td3
theorem GLies.below {w w' : World} {B : Nat} {a : Option Addr} {cap : Nat} {r : List G1} (h : GLies w B a cap r) (hb : Below w.heap.size w w') : GLies w' B a cap r :=
  ⟨h.1, h.2.1.below hb, fun y hy => ⟨(h.2.2.1 y hy).1.below hb, (h.2.2.1 y hy).2.1.below hb, (h.2.2.1 y hy).2.2.below hb⟩, h.2.2.2⟩
theorem SgRes.ans {bs : List Int} {len : Nat} {w w' : World} {e : Ending} (h : SgRes bs len w e w') : ∃ a cap r c p, e = .returned (.tuple #[.agg #[.slice a r.length cap], .int .i64 c, .int .i64 p]) ∧ GLies w' w.heap.size a cap r ∧ Answ bs len (r.map G1.td3) c p ∧ Below w.heap.size w w' := by
  obtain ⟨hb, ⟨c, p, hr, rfl⟩ | ⟨v, l, ts, h1, h2, h3, h4, rfl, h5, h6⟩⟩ := h
  · exact ⟨none, 0, [], c, p, rfl, ⟨by simp, OwnG.nil _ _, fun y hy => (by cases hy), fun y hy => (by cases hy)⟩, .inl ⟨hr, rfl⟩, hb⟩
  · obtain ⟨a, n, cap, rfl⟩ := h5.slice
    obtain rfl := h5.len
    exact ⟨a, cap, l, 0, 0, rfl, ⟨h4, h5, fun y hy => (h6 y hy).1.lies, fun y hy => (h6 y hy).2.fine⟩, .inr ⟨rfl, rfl, h1, by rw [List.length_map]; exact h4, ts, h2, h3⟩, hb⟩
end Go.Proofs.YtoclingolfdfeaaGreatDoor

/- LxU -/
namespace Go.Proofs.YtoclingolfdfeaaGreatDoor
open Go.RowKit Go.Deep
set_option maxRecDepth 100000

theorem termOk_len30 {k n s : Int} {bs : List Int} (h : termOk k bs n s = true) : bs.length ≤ 30 := by
  unfold termOk nameOk textOk at h
  split at h
  · simp at h; first | omega | simp_all
  · split at h
    · simp at h; first | omega | simp_all
    · split at h
      · simp at h; first | omega | simp_all
      · split at h
        · simp at h; first | omega | simp_all
        · cases h
theorem posT_most {L : Nat → Nat} {k : Int} (i : Nat) (hL : ∀ j, j < i → L j ≤ 30) : posT L k i ≤ k + 33 * (i : Int) := by
  induction i with
  | zero => simp [posT]
  | succ i ih =>
    have := ih (fun j hj => hL j (by omega))
    have := hL i (by omega)
    simp only [posT]
    omega
/-- A graph of the program's, as it lies. -/
structure GHold (w : World) (B : Nat) (a : Option Addr) (cap : Nat) (r : List G1) : Prop where
  few : r.length ≤ 60
  own : ∃ C, B ≤ C ∧ OwnG w C (.slice a r.length cap) r ∧ ∀ y ∈ r, y.ahead C
  txt : ∀ y ∈ r, y.nw w B
  good : ∀ y ∈ r, y.good ∧ fine3 y.td3
  asc : (r.map G1.td3).Pairwise (fun x y => cmpD x y < 0)
  sep : ∃ ql : List Q3, (∀ y ∈ r, ∃ q ∈ ql, y = q.g) ∧ (ql.flatMap Q3.tvs).Pairwise Apart
theorem GHold.keep {w W : World} {B : Nat} {a : Option Addr} {cap : Nat} {r : List G1} (h : GHold w B a cap r) (hs : w.heap.size ≤ W.heap.size) (hk : ∀ b, B ≤ b → b < w.heap.size → W.heap[b]? = w.heap[b]?) : GHold W B a cap r := by
  obtain ⟨C, hC, hO, ha⟩ := h.own
  exact ⟨h.few, ⟨C, hC, hO.keep hs (fun b h1 h2 => hk b (Nat.le_trans hC h1) h2), ha⟩, fun y hy => ⟨(h.txt y hy).1.keep hs hk, (h.txt y hy).2.1.keep hs hk, (h.txt y hy).2.2.keep hs hk⟩, h.good, h.asc, h.sep⟩
theorem GHold.below {w W : World} {B : Nat} {a : Option Addr} {cap : Nat} {r : List G1} (h : GHold w B a cap r) (hb : Below w.heap.size w W) : GHold W B a cap r := h.keep hb.size (fun b _ h2 => hb.block b h2)
theorem GHold.lies {w : World} {B : Nat} {a : Option Addr} {cap : Nat} {r : List G1} (h : GHold w B a cap r) : ∃ C, GLies w C a cap r := by
  obtain ⟨C, hC, hO, ha⟩ := h.own
  exact ⟨C, h.few, hO, fun y hy => ⟨(h.txt y hy).1.bs, (h.txt y hy).2.1.bs, (h.txt y hy).2.2.bs⟩, fun y hy => (h.good y hy).2⟩
theorem GrRes.ans {bs : List Int} {len : Nat} {w w' : World} {e : Ending} (h : GrRes bs len w e w') : ∃ a cap r c p, e = .returned (.tuple #[.agg #[.slice a r.length cap], .int .i64 c, .int .i64 p]) ∧ GHold w' w.heap.size a cap r ∧ Answ bs len (r.map G1.td3) c p ∧ Below w.heap.size w w' := by
  obtain ⟨hb, ⟨c, p, hr, rfl⟩ | ⟨a, cap, r, h1, rfl⟩⟩ := h
  · exact ⟨none, 0, [], c, p, rfl, ⟨by simp, ⟨w.heap.size, Nat.le_refl _, OwnG.nil _ _, fun y hy => (by cases hy)⟩, fun y hy => (by cases hy), fun y hy => (by cases hy), List.Pairwise.nil, [], fun y hy => (by cases hy), by simp⟩, .inl ⟨hr, rfl⟩, hb⟩
  · obtain ⟨ts, h2, h3⟩ := h1.ts
    exact ⟨a, cap, r, 0, 0, rfl, ⟨h1.few, h1.own, h1.txt, h1.good, h3.asc, h1.sep⟩, .inr ⟨rfl, rfl, h1.le, by rw [List.length_map]; exact h1.few, ts, h2, h3⟩, hb⟩
theorem GHold.short {w : World} {B : Nat} {a : Option Addr} {cap : Nat} {r : List G1} (h : GHold w B a cap r) (i : Nat) (hi : i < 3 * r.length) : gL r i ≤ 30 := by
  obtain ⟨y, _, hm, e⟩ := gAt hi
  have hk := (h.good y hm).1.2.2.2
  unfold tripleOk at hk
  simp only [Bool.and_eq_true, decide_eq_true_eq, beq_iff_eq] at hk
  obtain ⟨⟨⟨⟨h1, h2⟩, h3⟩, _⟩, _⟩ := hk
  have t := h.txt y hm
  have l1 := t.1.bs.1
  have l2 := t.2.1.bs.1
  have l3 := t.2.2.bs.1
  have k1 := termOk_len30 h1
  have k2 := termOk_len30 h2
  have k3 := termOk_len30 h3
  unfold gL
  rw [e]
  rcases (by omega : i % 3 = 0 ∨ i % 3 = 1 ∨ i % 3 = 2) with h3 | h3 | h3 <;> rw [h3]
  · show y.t.len ≤ 30
    omega
  · show y.u.len ≤ 30
    omega
  · show y.v.len ≤ 30
    omega
/-- The marks of a graph. -/
def GMd (w : World) (a : Option Addr) (r : List G1) : Prop := r = [] ∨ ∃ g, a = some ⟨g, 0, none⟩ ∧ g < w.heap.size ∧ ∀ i, i < 3 * r.length → MdT w g (gX r) (gL r) (gC r) (posT (gL r) 1 i) i
theorem GMd.below {w w' : World} {a : Option Addr} {r : List G1} (h : GMd w a r) (hb : Below w.heap.size w w') : GMd w' a r := by
  rcases h with h | ⟨g, ha, hg, h⟩
  · exact .inl h
  · exact .inr ⟨g, ha, Nat.lt_of_lt_of_le hg hb.size, fun i hi => (h i hi).below hg hb⟩
theorem GHold.pos {w : World} {B : Nat} {a : Option Addr} {cap : Nat} {r : List G1} (h : GHold w B a cap r) : ∀ i, i ≤ 3 * r.length → posT (gL r) 1 i ≤ 4194000 := fun i hi => by
  have h1 := posT_most (L := gL r) (k := 1) i (fun j hj => h.short j (by omega))
  have := h.few
  omega
theorem GHold.blocks {w : World} {B g : Nat} {cap : Nat} {r : List G1} (h : GHold w B (some ⟨g, 0, none⟩) cap r) : ∀ b, InT g (3 * r.length) (gX r) (gL r) b → B ≤ b := by
  obtain ⟨C, hC, hO, ha⟩ := h.own
  rintro b (rfl | ⟨i, hi, hl, p, hp, rfl⟩)
  · exact Nat.le_trans hC (hO.2 b rfl).1
  · obtain ⟨y, _, hm, e⟩ := gAt hi
    unfold gX at hp
    rw [e] at hp
    have t := h.txt y hm
    have up : ∀ {x : Option Addr} {n : Nat} {bs : List Int}, Nw w B x n bs → x = some p → B ≤ p.block := fun hn he => by
      rcases hn with ⟨h0, _⟩ | ⟨q, h0, h1, _⟩
      · rw [h0] at he
        cases he
      · rw [h0] at he
        cases he
        exact h1
    rcases (by omega : i % 3 = 0 ∨ i % 3 = 1 ∨ i % 3 = 2) with h3 | h3 | h3 <;> rw [h3] at hp
    · exact up t.1 hp
    · exact up t.2.1 hp
    · exact up t.2.2 hp
theorem GHold.mark {w : World} {B : Nat} {a : Option Addr} {cap : Nat} {r : List G1} (h : GHold w B a cap r) (hB : B ≤ w.heap.size) :
    Calls Tryz.prog 25 #[.agg #[.slice a r.length cap], .int .i64 1] w fun e w' => e = .returned (.int .i64 (posT (gL r) 1 (3 * r.length))) ∧ GMd w' a r ∧ Below B w w' := by
  by_cases h0 : r = []
  · subst h0
    refine (markGraph_zero a cap 1 w).mono ?_
    rintro e w' ⟨rfl, hb⟩
    exact ⟨rfl, .inl rfl, hb.mono hB⟩
  · obtain ⟨C, hC, hO, ha⟩ := h.own
    obtain ⟨ql, hq, hpw⟩ := h.sep
    rcases hO.form with ⟨_, h1⟩ | ⟨g, c', e, _, hlt, _⟩
    · exact absurd h1 h0
    · simp only [Value.slice.injEq] at e
      obtain ⟨rfl, _, rfl⟩ := e
      refine (markGraph_own g r.length cap (gX r) (gL r) (gC r) 1 w (by have := h.few; omega) (by omega) h.pos (fun o => ?_)).mono ?_
      · obtain ⟨C, hC, hO, ha⟩ := (h.below (bl_a o)).own
        exact mtt_of hO ha hq hpw h.asc (h.below (bl_a o)).txt
      · rintro e w' ⟨rfl, hM, o, hOn⟩
        have hb : Below B (w.alloc o) w' := hOn.below h.blocks
        refine ⟨rfl, .inr ⟨g, rfl, ?_, hM⟩, ((bl_a o).mono hB).trans hb⟩
        have := hb.size
        simp at this
        omega
theorem GHold.held {w W : World} {B : Nat} {a : Option Addr} {cap : Nat} {r : List G1} (h : GHold W B a cap r) (hM : GMd w a r) :
    Calls Tryz.prog 26 #[.agg #[.slice a r.length cap], .int .i64 1] w fun e w' => e = .returned (.int .i64 (posT (gL r) 1 (3 * r.length))) ∧ Below w.heap.size w w' := by
  rcases hM with rfl | ⟨g, rfl, hg, hM⟩
  · exact heldGraph_zero a cap 1 w (by omega)
  · exact heldGraph_own g r.length cap (gX r) (gL r) (gC r) 1 w (by have := h.few; omega) (by omega) h.pos (fun i hi => by have := h.short i hi; omega) hg hM
end Go.Proofs.YtoclingolfdfeaaGreatDoor

/- LxV -/
namespace Go.Proofs.YtoclingolfdfeaaGreatDoor
open Go.RowKit Go.Deep
set_option maxRecDepth 100000

theorem toByteS_newT (a : Option Addr) (len cap : Nat) (bs : List Int) (w : World) (h : Bs w a len bs) :
    Calls Tryz.prog 21 #[.slice a len cap] w fun e w' => ∃ g, e = .returned (.slice (some ⟨g, 0, none⟩) len len) ∧ OwnT w' g len bs ∧ g = w.heap.size ∧ Below w.heap.size w w' := by
  have h1 := h.1

  refine (toByteS_any a len cap bs w h).mono ?_
  rintro e w' ⟨rfl, rfl⟩
  refine ⟨_, rfl, ⟨?_, by simp, fun i hi => ?_, fun i hi => by simp [go_sem]⟩, rfl, bl_a _⟩
  · exact Bs.made w bs len h.1 h.2.1 h.2.2.1
  · have hi' : i < bs.length := by omega
    exact ⟨bs[i], by simp [go_sem, cellsOf, hi']⟩
theorem specRead_ans (a : Option Addr) (len : Nat) (bs : List Int) (w : World) (hB : Bs w a len bs) :
    Calls Tryz.prog 20 #[.slice a len len] w fun e w' => ∃ a cap n c p, e = .returned (.tuple #[.agg #[.slice a n cap], .int .i64 c, .int .i64 p]) ∧ Below w.heap.size w w' ∧ ∃ r : List G1, n = r.length ∧ GLies w' w.heap.size a cap r ∧ Answ bs len (r.map G1.td3) c p := by
  refine (specGraphRead_any a len len bs w hB (Nat.le_refl _)).mono ?_
  intro e w' h
  obtain ⟨a, cap, r, c, p, h1, h2, h3, h4⟩ := h.ans
  exact ⟨a, cap, r.length, c, p, h1, h4, r, rfl, h2, h3⟩
theorem implRead_ans (a : Option Addr) (len : Nat) (bs : List Int) (w : World) (hB : Bs w a len bs) (hT : Tab w) (hE : Errs w) :
    Calls Tryz.prog 10 #[.slice a len len] w fun e w' => ∃ a cap n c p, e = .returned (.tuple #[.agg #[.slice a n cap], .int .i64 c, .int .i64 p]) ∧ Below w.heap.size w w' ∧ ∃ r : List G1, n = r.length ∧ GHold w' w.heap.size a cap r ∧ Answ bs len (r.map G1.td3) c p := by
  refine (implGraphRead_any a len len bs w hB hT hE).mono ?_
  intro e w' h
  obtain ⟨a, cap, r, c, p, h1, h2, h3, h4⟩ := h.ans
  exact ⟨a, cap, r.length, c, p, h1, h4, r, rfl, h2, h3⟩
set_option maxHeartbeats 400000 in
theorem walkGraphRead_long (a : Option Addr) (len cap : Nat) (w : World) (hle : 1048576 < len) :
    Calls Tryz.prog 5 #[.slice a len cap] w fun e w' => e = .returned (.bool true) ∧ Below w.heap.size w w' := by
  have hz : (1048576 : Int) < (len : Int) := by omega
  go_enter Tryz.func5, Tryz.ntmps5
  go_wp2_with fail
  go_ret
  exact ⟨rfl, Below.refl _ _⟩
end Go.Proofs.YtoclingolfdfeaaGreatDoor

/- LxW -/
namespace Go.Proofs.YtoclingolfdfeaaGreatDoor
open Go.RowKit Go.Deep
set_option maxRecDepth 100000

theorem GHold.low {w : World} {B : Nat} {a : Option Addr} {cap g : Nat} {r : List G1} (h : GHold w B a cap r) (hg : g < w.heap.size) : ∀ b, InT g (3 * r.length) (gX r) (gL r) b → b < w.heap.size := by
  rintro b (rfl | ⟨i, hi, hl, p, hp, rfl⟩)
  · exact hg
  · obtain ⟨y, _, hm, e⟩ := gAt hi
    unfold gX at hp
    rw [e] at hp
    have t := h.txt y hm
    have up : ∀ {x : Option Addr} {n : Nat} {bs : List Int}, Nw w B x n bs → x = some p → p.block < w.heap.size := fun hn he => by
      rcases hn with ⟨h0, _⟩ | ⟨q, h0, h1, h2⟩
      · rw [h0] at he
        cases he
      · rw [h0] at he
        cases he
        exact h2.2.1
    rcases (by omega : i % 3 = 0 ∨ i % 3 = 1 ∨ i % 3 = 2) with h3 | h3 | h3 <;> rw [h3] at hp
    · exact up t.1 hp
    · exact up t.2.1 hp
    · exact up t.2.2 hp
theorem GHold.mark2 {w0 w : World} {B : Nat} {a : Option Addr} {cap : Nat} {r : List G1} (h0 : GHold w0 B a cap r) (h : GHold w B a cap r) (hB : B ≤ w.heap.size) :
    Calls Tryz.prog 25 #[.agg #[.slice a r.length cap], .int .i64 1] w fun e w' => e = .returned (.int .i64 (posT (gL r) 1 (3 * r.length))) ∧ GMd w' a r ∧ Below B w w' ∧ ∀ b, w0.heap.size ≤ b → b < w.heap.size → w'.heap[b]? = w.heap[b]? := by
  by_cases hr : r = []
  · subst hr
    refine (markGraph_zero a cap 1 w).mono ?_
    rintro e w' ⟨rfl, hb⟩
    exact ⟨rfl, .inl rfl, hb.mono hB, fun b _ h2 => hb.block b h2⟩
  · obtain ⟨C, hC, hO, ha⟩ := h.own
    obtain ⟨ql, hq, hpw⟩ := h.sep
    obtain ⟨C0, _, hO0, _⟩ := h0.own
    rcases hO.form with ⟨_, h1⟩ | ⟨g, c', e, _, hlt, _⟩
    · exact absurd h1 hr
    · simp only [Value.slice.injEq] at e
      obtain ⟨rfl, _, rfl⟩ := e
      have hg0 : g < w0.heap.size := (hO0.2 g rfl).2
      refine (markGraph_own g r.length cap (gX r) (gL r) (gC r) 1 w (by have := h.few; omega) (by omega) h.pos (fun o => ?_)).mono ?_
      · obtain ⟨C, hC, hO, ha⟩ := (h.below (bl_a o)).own
        exact mtt_of hO ha hq hpw h.asc (h.below (bl_a o)).txt
      · rintro e w' ⟨rfl, hM, o, hOn⟩
        have hb : Below B (w.alloc o) w' := hOn.below h.blocks
        refine ⟨rfl, .inr ⟨g, rfl, ?_, hM⟩, ((bl_a o).mono hB).trans hb, fun b h1 h2 => ?_⟩
        · have := hb.size
          simp at this
          omega
        · have h3 := hOn.block b (fun e => by have := h0.low hg0 b e; omega)
          rw [h3]
          exact (bl_a (w := w) o).block b h2
/-- Within the law's walk: what was there stays, the two graphs' boxes too. -/
structure RdS (w w2 W : World) (z y : Nat) (wv iv : Value) : Prop where
  bl : Below w.heap.size w W
  bz : Below z w2 W
  cz : W.cell? ⟨z, 0, none⟩ = some wv
  cy : W.cell? ⟨y, 0, none⟩ = some iv
  lz : z < W.heap.size
  ly : y < W.heap.size
theorem RdS.below {w w2 W W' : World} {z y : Nat} {wv iv : Value} (h : RdS w w2 W z y wv iv) (hb : Below W.heap.size W W') : RdS w w2 W' z y wv iv :=
  ⟨bl_trans h.bl hb, h.bz.trans (hb.mono (Nat.le_of_lt h.lz)), (hb.cell (p := ⟨z, 0, none⟩) h.lz).trans h.cz, (hb.cell (p := ⟨y, 0, none⟩) h.ly).trans h.cy, Nat.lt_of_lt_of_le h.lz hb.size, Nat.lt_of_lt_of_le h.ly hb.size⟩
theorem RdS.but {w w2 W W' : World} {z y g : Nat} {wv iv : Value} (h : RdS w w2 W z y wv iv) (hb : But g W W') (h1 : w.heap.size ≤ z) (h2 : z < g) (h3 : g < y) : RdS w w2 W' z y wv iv :=
  ⟨h.bl.trans (hb.below (by omega)), h.bz.trans (hb.below (by omega)), (hb.cell (p := ⟨z, 0, none⟩) (by show z ≠ g; omega)).trans h.cz, (hb.cell (p := ⟨y, 0, none⟩) (by show y ≠ g; omega)).trans h.cy, by rw [hb.size]; exact h.lz, by rw [hb.size]; exact h.ly⟩
theorem RdS.mark {w w2 W W' : World} {z y b : Nat} {wv iv : Value} (h : RdS w w2 W z y wv iv) (hb : Below b W W') (hk : ∀ c, y ≤ c → c < W.heap.size → W'.heap[c]? = W.heap[c]?) (h1 : w.heap.size ≤ z) (h2 : z < b) : RdS w w2 W' z y wv iv :=
  ⟨h.bl.trans (hb.mono (by omega)), h.bz.trans (hb.mono (by omega)), (hb.cell (p := ⟨z, 0, none⟩) h2).trans h.cz, (World.cell?_of_block (w := W) (a := ⟨y, 0, none⟩) (hk y (Nat.le_refl _) h.ly)).trans h.cy, Nat.lt_of_lt_of_le h.lz hb.size, Nat.lt_of_lt_of_le h.ly hb.size⟩
theorem GHold.but {w W : World} {B g : Nat} {a : Option Addr} {cap : Nat} {r : List G1} (h : GHold w B a cap r) (hb : But g w W) (hg : g < B) : GHold W B a cap r := h.keep (by rw [hb.size]; exact Nat.le_refl _) (fun b h1 _ => hb.block b (by omega))
theorem posT_pos (L : Nat → Nat) {k : Int} (hk : 0 ≤ k) (i : Nat) : 0 ≤ posT L k i := by
  induction i with
  | zero => simpa [posT] using hk
  | succ i ih =>
    simp only [posT]
    omega
theorem toByteS_x (a : Option Addr) (len cap : Nat) (bs : List Int) (w : World) (h : Bs w a len bs) :
    Calls Tryz.prog 21 #[.slice a len cap] w fun e w' => ∃ g, e = .returned (.slice (some ⟨g, 0, none⟩) len len) ∧ OwnT w' g len bs ∧ Below w.heap.size w w' := by
  refine (toByteS_newT a len cap bs w h).mono ?_
  rintro e w' ⟨g, h1, h2, _, h4⟩
  exact ⟨g, h1, h2, h4⟩

set_option maxHeartbeats 4000000 in
theorem walkGraphRead_a (a : Option Addr) (len cap : Nat) (bs : List Int) (w : World) (hle : len ≤ 1048576) (HB : Hid (Bs w a len bs)) (HTE : Hid (∀ W, Below w.heap.size w W → Tab W ∧ Errs W)) :
    Calls Tryz.prog 5 #[.slice a len cap] w fun e w' => e = .returned (.bool true) ∧ Below w.heap.size w w' := by
  have hz : ¬ (1048576 : Int) < (len : Int) := by omega
  go_enter Tryz.func5, Tryz.ntmps5
  go_wp2_with fail
  refine (toByteS_newT a len cap bs _ HB.out).mono ?_
  rintro e w1 ⟨_, rfl, hO1, rfl, hb1⟩
  have HO1 : Hid (OwnT w1 w.heap.size len bs) := hO1
  have HB1 : Hid (Below w.heap.size w w1) := hb1
  clear hO1 hb1
  go_wp2_with fail
  refine (specRead_ans _ len bs _ HO1.out.1).mono ?_
  rintro e w2 ⟨wa, wc, wn, c, p, rfl, hb2, wl, hwn, hL2, hA2⟩
  have HB3 : Hid (Below w.heap.size w (w2.alloc (.cells #[.slice wa wn wc] 30))) := bl_trans (bl_trans HB1.out hb2) (bl_a _)
  have HW2 : Hid (wn = wl.length ∧ Answ bs len (wl.map G1.td3) c p) := ⟨hwn, hA2⟩
  have HL2 : Hid (GLies w2 w1.heap.size wa wc wl) := hL2
  have HZ3 : Hid (Below w2.heap.size w2 (w2.alloc (.cells #[.slice wa wn wc] 30))) := bl_a _
  have hz3 : (w2.alloc (.cells #[.slice wa wn wc] 30)).cell? ⟨w2.heap.size, 0, none⟩ = some (.slice wa wn wc) := by simp [go_sem]
  have hz3l : w2.heap.size < (w2.alloc (.cells #[.slice wa wn wc] 30)).heap.size := by simp
  have HL2 : Hid (∀ W, Below w2.heap.size w2 W → GLies W w1.heap.size wa wc wl) := fun W h => HL2.out.below h
  have HZZ : Hid (w.heap.size ≤ w2.heap.size) := (show _ ≤ _ by have h1 := HB1.out.size; have h2 := hb2.size; omega)
  clear hL2 hA2 hb2 HB1 HO1 hwn
  go_wp2_with fail
  generalize w2.alloc (.cells #[.slice wa wn wc] 30) = w3 at *
  generalize hzz : w2.heap.size = z at *
  clear hzz
  generalize w1.heap.size = B1 at *
  refine (toByteS_newT a len cap bs w3 (HB.out.below HB3.out)).mono ?_
  rintro e w4 ⟨g, rfl, hO4, hg4, hb4⟩
  have HG : Hid (z < g ∧ g < w4.heap.size) := ⟨by omega, hO4.2.1⟩
  have HZ0 : Hid (w.heap.size ≤ z) := HZZ.out
  have HB4 : Hid (Below w.heap.size w w4) := bl_trans HB3.out hb4
  have HO4 : Hid (OwnT w4 g len bs) := hO4
  have HZ4 : Hid (Below z w2 w4) := HZ3.out.trans (hb4.mono (Nat.le_of_lt hz3l))
  have hz4 : w4.cell? ⟨z, 0, none⟩ = some (.slice wa wn wc) := (hb4.cell (p := ⟨z, 0, none⟩) hz3l).trans hz3
  have hz4l : z < w4.heap.size := Nat.lt_of_lt_of_le hz3l hb4.size
  clear hO4 hg4 hb4 HZ3 hz3 hz3l HB3
  go_wp2_with fail
  refine (implRead_ans _ len bs w4 HO4.out.1 (HTE.out _ HB4.out).1 (HTE.out _ HB4.out).2).mono ?_
  rintro e w5 ⟨ia, ic, n2, c2, p2, rfl, hb5, r2, hn2, hH5, hA5⟩
  have HE : Hid (r2.map G1.td3 = wl.map G1.td3 ∧ c2 = c ∧ p2 = p) := by
    obtain ⟨C, hGL⟩ := hH5.lies
    refine hA5.fn HW2.out.2 (fun x hx => ?_) (fun x hx => ?_)
    · obtain ⟨y, hy, rfl⟩ := List.mem_map.1 hx
      exact hGL.2.2.2 y hy
    · obtain ⟨y, hy, rfl⟩ := List.mem_map.1 hx
      exact (HL2.out _ HZ4.out).2.2.2 y hy
  obtain ⟨rfl, rfl⟩ : c2 = c ∧ p2 = p := HE.out.2
  have HN : Hid (n2 = r2.length ∧ wn = wl.length) := ⟨hn2, HW2.out.1⟩
  generalize hb4s : w4.heap.size = b4 at *
  have HH5 : Hid (GHold w5 b4 ia ic r2) := hH5
  have HZS : Hid (w.heap.size ≤ z) := HZ0.out
  have HR6 : Hid (RdS w w2 (w5.alloc (.cells #[.slice ia n2 ic] 30)) z w5.heap.size (.slice wa wn wc) (.slice ia n2 ic)) := by
    have hs5 := hb5.size
    refine ⟨bl_trans (bl_trans HB4.out (by rw [hb4s]; exact hb5)) (bl_a _), (HZ4.out.trans (hb5.mono (Nat.le_of_lt hz4l))).trans ((bl_a _).mono (by omega)), ?_, by simp [go_sem], by simp; omega, by simp⟩
    rw [(bl_a (w := w5) (.cells #[.slice ia n2 ic] 30)).cell (p := ⟨z, 0, none⟩) (show z < w5.heap.size by omega), hb5.cell (p := ⟨z, 0, none⟩) (by exact hz4l)]
    exact hz4
  have HO6 : Hid (OwnT (w5.alloc (.cells #[.slice ia n2 ic] 30)) g len bs) := (HO4.out.below (by rw [hb4s]; exact hb5)).below (bl_a _)
  have HK6 : Hid (GHold (w5.alloc (.cells #[.slice ia n2 ic] 30)) b4 ia ic r2 ∧ b4 ≤ w5.heap.size ∧ g < b4 ∧ z < g) := ⟨hH5.below (bl_a _), by have := hb5.size; omega, HG.out.2, HG.out.1⟩
  have HA2 : Hid (Answ bs len (wl.map G1.td3) c2 p2) := HW2.out.2
  clear hb5 hH5 hA5 hn2 hz4 hz4l HZ4 HG HB4 HW2 hb4s HO4
  have EQ : Hid (∀ W, Below z w2 W → GHold W b4 ia ic r2 → Calls Tryz.prog 22 #[.agg #[.slice ia n2 ic], .agg #[.slice wa wn wc]] W fun e w' => e = .returned (.bool true) ∧ Below W.heap.size W w') := by
    intro W h1 h2
    obtain ⟨C, hGL⟩ := h2.lies
    have hGM := HL2.out W h1
    obtain ⟨rfl, rfl⟩ := HN.out
    exact eqGraph_own ia wa ic wc r2 wl W C B1 (by have := hGL.1; omega) hGL.2.1 hGM.2.1 hGL.2.2.1 hGM.2.2.1 HE.out.1
  have HL9 : Hid (∀ W, Below z w2 W → GLies W B1 wa wc wl) := HL2
  clear HL2
  have HY : Hid (b4 ≤ w5.heap.size) := HK6.out.2.1
  have q6 := HR6.out.cz
  have q7 := HR6.out.cy
  go_wp2_with fail
  generalize w5.alloc (.cells #[.slice ia n2 ic] 30) = w6 at *
  obtain ⟨y, hy⟩ : ∃ y, y = w5.heap.size := ⟨_, rfl⟩
  rw [← hy] at HR6 q7 HY
  have HYY : Hid (y = w5.heap.size) := hy
  rw [← hy]
  clear hy
  refine (EQ.out _ HR6.out.bz HK6.out.1).mono ?_
  rintro e w7 ⟨rfl, hb7⟩
  have HR7 : Hid (RdS w w2 w7 z y (.slice wa wn wc) (.slice ia n2 ic)) := HR6.out.below hb7
  have HO7 : Hid (OwnT w7 g len bs) := HO6.out.below hb7
  have HK7 : Hid (GHold w7 b4 ia ic r2 ∧ g < b4 ∧ z < g) := ⟨HK6.out.1.below hb7, HK6.out.2.2⟩
  clear hb7 HR6 HO6 HK6 q6 q7
  have q0 : (c2 != c2) = false := by simp
  have q1 : (p2 != p2) = false := by simp
  go_wp2_with fail
  refine (toByteS_x a len cap bs w7 (HB.out.below HR7.out.bl)).mono ?_
  rintro e w8 ⟨g8, rfl, hO8, hb8⟩
  have HR8 : Hid (RdS w w2 w8 z y (.slice wa wn wc) (.slice ia n2 ic)) := HR7.out.below hb8
  have HO8 : Hid (OwnT w8 g len bs ∧ OwnT w8 g8 len bs) := ⟨HO7.out.below hb8, hO8⟩
  have HK8 : Hid (GHold w8 b4 ia ic r2 ∧ g < b4 ∧ z < g) := ⟨HK7.out.1.below hb8, HK7.out.2⟩
  clear hb8 HR7 HO7 HK7 hO8
  go_wp2_with fail
  refine (eqByteS_any _ _ len len len len bs bs w8 HO8.out.1.1 HO8.out.2.1).mono ?_
  rintro e w9 ⟨rfl, d9, h9⟩
  have hb9 : Below w8.heap.size w8 w9 := by rw [h9]; exact below_drewN (Below.refl _ _) _
  have HR9 : Hid (RdS w w2 w9 z y (.slice wa wn wc) (.slice ia n2 ic)) := HR8.out.below hb9
  have HO9 : Hid (OwnT w9 g len bs) := HO8.out.1.below hb9
  have HK9 : Hid (GHold w9 b4 ia ic r2 ∧ g < b4 ∧ z < g) := ⟨HK8.out.1.below hb9, HK8.out.2⟩
  clear hb9 h9 HR8 HO8 HK8
  go_wp2_with fail
  refine (markByteS_own g len len 1 w9 (by omega) (by omega) hle HO9.out.2.2.1 HO9.out.2.2.2).mono ?_
  rintro e w10 ⟨rfl, hbu, _, _⟩
  have HR10 : Hid (RdS w w2 w10 z y (.slice wa wn wc) (.slice ia n2 ic)) := HR9.out.but hbu HZS.out HK9.out.2.2 (Nat.lt_of_lt_of_le HK9.out.2.1 HY.out)
  have HK10 : Hid (GHold w10 b4 ia ic r2 ∧ z < b4) := ⟨HK9.out.1.but hbu HK9.out.2.1, Nat.lt_trans HK9.out.2.2 HK9.out.2.1⟩
  clear hbu HR9 HO9 HK9
  have q3 : ¬ (1 + (len : Int)) < 0 := by omega
  have q6 := HR10.out.cz
  have q7 := HR10.out.cy
  go_wp2_with fail
  refine (EQ.out _ HR10.out.bz HK10.out.1).mono ?_
  rintro e w11 ⟨rfl, hb11⟩
  have HR11 : Hid (RdS w w2 w11 z y (.slice wa wn wc) (.slice ia n2 ic)) := HR10.out.below hb11
  have HK11 : Hid (GHold w11 b4 ia ic r2 ∧ z < b4) := ⟨HK10.out.1.below hb11, HK10.out.2⟩
  clear hb11 HR10 HK10 q6 q7 q3
  have HMK : Hid (Calls Tryz.prog 25 #[.agg #[.slice ia n2 ic], .int .i64 1] w11 fun e w' => e = .returned (.int .i64 (posT (gL r2) 1 (3 * r2.length))) ∧ GMd w' ia r2 ∧ Below b4 w11 w' ∧ ∀ b, y ≤ b → b < w11.heap.size → w'.heap[b]? = w11.heap[b]?) := by
    obtain ⟨rfl, _⟩ := HN.out
    rw [HYY.out]
    exact HH5.out.mark2 HK11.out.1 (Nat.le_trans HY.out (Nat.le_of_lt HR11.out.ly))
  have HHD : Hid (∀ W, GMd W ia r2 → Calls Tryz.prog 26 #[.agg #[.slice ia n2 ic], .int .i64 1] W fun e w' => e = .returned (.int .i64 (posT (gL r2) 1 (3 * r2.length))) ∧ Below W.heap.size W w') := by
    obtain ⟨rfl, _⟩ := HN.out
    exact fun W hM => HH5.out.held hM
  have HPO : Hid (0 ≤ posT (gL r2) 1 (3 * r2.length)) := posT_pos (gL r2) (by omega) _
  generalize posT (gL r2) 1 (3 * r2.length) = m at *
  have q6 := HR11.out.cy
  go_wp2_with fail
  refine HMK.out.mono ?_
  rintro e w12 ⟨rfl, hM12, hb12, hk12⟩
  have HR12 : Hid (RdS w w2 w12 z y (.slice wa wn wc) (.slice ia n2 ic)) := HR11.out.mark hb12 hk12 HZS.out HK11.out.2
  have HM12 : Hid (GMd w12 ia r2) := hM12
  clear hM12 hb12 hk12 HR11 HK11 HMK q6
  have q3 : ¬ m < 0 := by have h := HPO.out; omega
  have q4 : (m != m) = false := by simp
  have q6 := HR12.out.cy
  go_wp2_with fail
  refine (HHD.out _ HM12.out).mono ?_
  rintro e w13 ⟨rfl, hb13⟩
  have HR13 : Hid (RdS w w2 w13 z y (.slice wa wn wc) (.slice ia n2 ic)) := HR12.out.below hb13
  have HM13 : Hid (GMd w13 ia r2) := HM12.out.below hb13
  clear hb13 HR12 HM12 q6
  go_wp2_with fail
  refine (toByteS_x a len cap bs w13 (HB.out.below HR13.out.bl)).mono ?_
  rintro e w14 ⟨g14, rfl, hO14, hb14⟩
  have HR14 : Hid (RdS w w2 w14 z y (.slice wa wn wc) (.slice ia n2 ic)) := HR13.out.below hb14
  have HM14 : Hid (GMd w14 ia r2) := HM13.out.below hb14
  have HO14 : Hid (OwnT w14 g14 len bs) := hO14
  clear hb14 HR13 HM13 hO14
  go_wp2_with fail
  refine (implRead_ans _ len bs w14 HO14.out.1 (HTE.out _ HR14.out.bl).1 (HTE.out _ HR14.out.bl).2).mono ?_
  rintro e w15 ⟨ja, jc, n3, c3, p3, rfl, hb15, r3, hn3, hH15, hA15⟩
  have HE3 : Hid (r3.map G1.td3 = wl.map G1.td3 ∧ c3 = c2 ∧ p3 = p2) := by
    obtain ⟨C, hGL⟩ := hH15.lies
    refine hA15.fn HA2.out (fun x hx => ?_) (fun x hx => ?_)
    · obtain ⟨y, hy, rfl⟩ := List.mem_map.1 hx
      exact hGL.2.2.2 y hy
    · obtain ⟨y, hy, rfl⟩ := List.mem_map.1 hx
      exact (HL9.out _ HR14.out.bz).2.2.2 y hy
  obtain ⟨rfl, rfl⟩ : c3 = c2 ∧ p3 = p2 := HE3.out.2
  have HR15 : Hid (RdS w w2 (w15.alloc (.cells #[.slice ja n3 jc] 30)) z y (.slice wa wn wc) (.slice ia n2 ic)) := (HR14.out.below hb15).below (bl_a _)
  have HM15 : Hid (GMd (w15.alloc (.cells #[.slice ja n3 jc] 30)) ia r2) := (HM14.out.below hb15).below (bl_a _)
  have EQ2 : Hid (Calls Tryz.prog 22 #[.agg #[.slice ja n3 jc], .agg #[.slice wa wn wc]] (w15.alloc (.cells #[.slice ja n3 jc] 30)) fun e w' => e = .returned (.bool true) ∧ Below (w15.alloc (.cells #[.slice ja n3 jc] 30)).heap.size (w15.alloc (.cells #[.slice ja n3 jc] 30)) w') := by
    obtain ⟨C, hGL⟩ := (hH15.below (bl_a (.cells #[.slice ja n3 jc] 30))).lies
    have hGM := HL9.out _ HR15.out.bz
    have h2 := HN.out.2
    subst hn3
    rw [h2]
    exact eqGraph_own ja wa jc wc r3 wl _ C B1 (by have := hGL.1; omega) hGL.2.1 hGM.2.1 hGL.2.2.1 hGM.2.2.1 HE3.out.1
  have q6 := HR15.out.cz
  clear hb15 hH15 hA15 hn3 HR14 HM14 HO14
  go_wp2_with fail
  generalize w15.alloc (.cells #[.slice ja n3 jc] 30) = w16 at *
  refine EQ2.out.mono ?_
  rintro e w17 ⟨rfl, hb17⟩
  have HR17 : Hid (RdS w w2 w17 z y (.slice wa wn wc) (.slice ia n2 ic)) := HR15.out.below hb17
  have HM17 : Hid (GMd w17 ia r2) := HM15.out.below hb17
  clear hb17 HR15 HM15 q6
  have q6 := HR17.out.cy
  go_wp2_with fail
  refine (HHD.out _ HM17.out).mono ?_
  rintro e w18 ⟨rfl, hb18⟩
  have HBZ : Hid (Below w.heap.size w w18) := (HR17.out.below hb18).bl
  clear hb18 HR17 HM17 q6
  go_wp2_with fail
  go_ret
  exact ⟨rfl, HBZ.out⟩
end Go.Proofs.YtoclingolfdfeaaGreatDoor
