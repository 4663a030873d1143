/- Rows of triples in memory, and the laws' helpers on them. -/
import Derived.Test.YtmpiadlmkeimdaaDoorTriC
import Derived.Deep.RegionHeld3
namespace Go.Proofs.YtmpiadlmkeimdaaDoor
open Go.RowKit Go.Deep

/-- Three terms in a row from place o on in block b. -/
def Row12 (w : World) (b o : Nat) (t u v : Tm) : Prop :=
  (w.cell? ⟨b, o, none⟩ = some (.int .i64 t.k) ∧ w.cell? ⟨b, o + 1, none⟩ = some (.slice t.a t.len t.cap) ∧ w.cell? ⟨b, o + 2, none⟩ = some (.int .i64 t.n) ∧ w.cell? ⟨b, o + 3, none⟩ = some (.int .i64 t.s)) ∧
    (w.cell? ⟨b, o + 4, none⟩ = some (.int .i64 u.k) ∧ w.cell? ⟨b, o + 5, none⟩ = some (.slice u.a u.len u.cap) ∧ w.cell? ⟨b, o + 6, none⟩ = some (.int .i64 u.n) ∧ w.cell? ⟨b, o + 7, none⟩ = some (.int .i64 u.s)) ∧
    (w.cell? ⟨b, o + 8, none⟩ = some (.int .i64 v.k) ∧ w.cell? ⟨b, o + 9, none⟩ = some (.slice v.a v.len v.cap) ∧ w.cell? ⟨b, o + 10, none⟩ = some (.int .i64 v.n) ∧ w.cell? ⟨b, o + 11, none⟩ = some (.int .i64 v.s))
/-- n triples behind an address. -/
def Rows (w : World) (a : Option Addr) (n : Nat) (T U V : Nat → Tm) : Prop :=
  n = 0 ∨ ∃ b off, a = some ⟨b, off, none⟩ ∧ b < w.heap.size ∧ ∀ i, i < n → Row12 w b (off + i * 12) (T i) (U i) (V i)
theorem Row12.of_block {w w' : World} {b o : Nat} {t u v : Tm} (h : Row12 w b o t u v) (hb : w'.heap[b]? = w.heap[b]?) : Row12 w' b o t u v := by
  have e : ∀ i, w'.cell? ⟨b, i, none⟩ = w.cell? ⟨b, i, none⟩ := fun i => World.cell?_of_block (w := w) (a := ⟨b, i, none⟩) hb
  unfold Row12
  simp only [e]
  exact h
theorem Rows.below {w w' : World} {a : Option Addr} {n : Nat} {T U V : Nat → Tm} (h : Rows w a n T U V) (hb : Below w.heap.size w w') : Rows w' a n T U V := by
  rcases h with h | ⟨b, off, ha, hlt, hc⟩
  · exact .inl h
  · exact .inr ⟨b, off, ha, Nat.lt_of_lt_of_le hlt hb.size, fun i hi => (hc i hi).of_block (hb.block b hlt)⟩
/-- Their texts. -/
def Texts (w : World) (n : Nat) (T : Nat → Tm) (B : Nat → List Int) : Prop := ∀ i, i < n → Bs w (T i).a (T i).len (B i)
theorem Texts.below {w w' : World} {n : Nat} {T : Nat → Tm} {B : Nat → List Int} (h : Texts w n T B) (hb : Below w.heap.size w w') : Texts w' n T B := fun i hi => (h i hi).below hb

theorem bl_drew0 {w : World} : Below w.heap.size w w.drew := Below.drew (Below.refl _ _)

set_option maxRecDepth 20000 in
set_option maxHeartbeats 2000000 in
theorem eqTripleS_like (a a' : Option Addr) (n cap cap' : Nat) (T U V T' U' V' : Nat → Tm) (bt bu bv : Nat → List Int) (w : World) (hn : n ≤ 1048576)
    (hR : Rows w a n T U V) (hR' : Rows w a' n T' U' V') (h1 : Texts w n T bt) (h2 : Texts w n U bu) (h3 : Texts w n V bv) (h1' : Texts w n T' bt) (h2' : Texts w n U' bu) (h3' : Texts w n V' bv)
    (l1 : ∀ i, i < n → (T i).like (T' i)) (l2 : ∀ i, i < n → (U i).like (U' i)) (l3 : ∀ i, i < n → (V i).like (V' i)) :
    Calls Tryd.prog 34 #[.slice a n cap, .slice a' n cap'] w fun e w' => e = .returned (.bool true) ∧ Below w.heap.size w w' := by
  by_cases hn0 : n = 0
  · subst hn0
    go_enter Tryd.func34, Tryd.ntmps34
    go_wp2
    refine wp_loop_rounds 1 ?_
    rw [rounds_succ]
    go_wp2
    go_ret
    exact ⟨rfl, Below.refl _ _⟩
  obtain ⟨b, off, rfl, hlt, hc⟩ := hR.resolve_left hn0
  obtain ⟨b', off', rfl, hlt', hc'⟩ := hR'.resolve_left hn0
  clear hR hR'
  go_enter Tryd.func34, Tryd.ntmps34
  go_wp2
  go_loopw [5] (fun i wr => ∃ k : Nat, k ≤ n ∧ i = .int .i64 k ∧ Below w.heap.size w wr)
    (fun i _ => n - (intOf i).toNat)
  case atStart => exact ⟨0, Nat.zero_le _, rfl, Below.refl _ _⟩
  case round =>
    obtain ⟨k, hk, rfl, hb⟩ := hrel
    by_cases hlk : k < n
    · have hx := (hc k hlk).of_block (hb.block b hlt)
      have hy := (hc' k hlk).of_block (hb.block b' hlt')
      have E := fun (w' : World) (hq : Below w.heap.size w w') => eqTriple_like (T k) (U k) (V k) (T' k) (U' k) (V' k) (bt k) (bu k) (bv k) w' (l1 k hlk) (l2 k hlk) (l3 k hlk) ((h1 k hlk).below hq) ((h2 k hlk).below hq) ((h3 k hlk).below hq) ((h1' k hlk).below hq) ((h2' k hlk).below hq) ((h3' k hlk).below hq)
      clear hc hc' h1 h2 h3 h1' h2' h3' l1 l2 l3
      have hx0 := hx
      have hy0 := hy
      obtain ⟨⟨x0, x1, x2, x3⟩, ⟨x4, x5, x6, x7⟩, ⟨x8, x9, xa, xb⟩⟩ := hx
      obtain ⟨⟨y0, y1, y2, y3⟩, ⟨y4, y5, y6, y7⟩, ⟨y8, y9, ya, yb⟩⟩ := hy
      go_wp2_with fail
      go_region_held3 (fun w' => w'.cell? ⟨b, off + k * 12, none⟩ = some (.int .i64 (T k).k) ∧ w'.cell? ⟨b, off + k * 12 + 1, none⟩ = some (.slice (T k).a (T k).len (T k).cap) ∧ w'.cell? ⟨b, off + k * 12 + 2, none⟩ = some (.int .i64 (T k).n) ∧ w'.cell? ⟨b, off + k * 12 + 3, none⟩ = some (.int .i64 (T k).s) ∧ w'.cell? ⟨b, off + k * 12 + 4, none⟩ = some (.int .i64 (U k).k) ∧ w'.cell? ⟨b, off + k * 12 + 5, none⟩ = some (.slice (U k).a (U k).len (U k).cap) ∧ w'.cell? ⟨b, off + k * 12 + 6, none⟩ = some (.int .i64 (U k).n) ∧ w'.cell? ⟨b, off + k * 12 + 7, none⟩ = some (.int .i64 (U k).s) ∧ w'.cell? ⟨b, off + k * 12 + 8, none⟩ = some (.int .i64 (V k).k) ∧ w'.cell? ⟨b, off + k * 12 + 9, none⟩ = some (.slice (V k).a (V k).len (V k).cap) ∧ w'.cell? ⟨b, off + k * 12 + 10, none⟩ = some (.int .i64 (V k).n) ∧ w'.cell? ⟨b, off + k * 12 + 11, none⟩ = some (.int .i64 (V k).s) ∧ w'.cell? ⟨b', off' + k * 12, none⟩ = some (.int .i64 (T' k).k) ∧ w'.cell? ⟨b', off' + k * 12 + 1, none⟩ = some (.slice (T' k).a (T' k).len (T' k).cap) ∧ w'.cell? ⟨b', off' + k * 12 + 2, none⟩ = some (.int .i64 (T' k).n) ∧ w'.cell? ⟨b', off' + k * 12 + 3, none⟩ = some (.int .i64 (T' k).s) ∧ w'.cell? ⟨b', off' + k * 12 + 4, none⟩ = some (.int .i64 (U' k).k) ∧ w'.cell? ⟨b', off' + k * 12 + 5, none⟩ = some (.slice (U' k).a (U' k).len (U' k).cap) ∧ w'.cell? ⟨b', off' + k * 12 + 6, none⟩ = some (.int .i64 (U' k).n) ∧ w'.cell? ⟨b', off' + k * 12 + 7, none⟩ = some (.int .i64 (U' k).s) ∧ w'.cell? ⟨b', off' + k * 12 + 8, none⟩ = some (.int .i64 (V' k).k) ∧ w'.cell? ⟨b', off' + k * 12 + 9, none⟩ = some (.slice (V' k).a (V' k).len (V' k).cap) ∧ w'.cell? ⟨b', off' + k * 12 + 10, none⟩ = some (.int .i64 (V' k).n) ∧ w'.cell? ⟨b', off' + k * 12 + 11, none⟩ = some (.int .i64 (V' k).s)) (simp [*, go_sem])
        (first
          | (go_at_call 53; refine (E _ (bl_trans hb bl_drew0)).mono ?_; rintro e w2 ⟨rfl, hb2⟩; have hb3 := bl_trans bl_drew0 hb2; obtain ⟨⟨x0, x1, x2, x3⟩, ⟨x4, x5, x6, x7⟩, ⟨x8, x9, xa, xb⟩⟩ := hx0.of_block (hb3.block b (Nat.lt_of_lt_of_le hlt hb.size)); obtain ⟨⟨y0, y1, y2, y3⟩, ⟨y4, y5, y6, y7⟩, ⟨y8, y9, ya, yb⟩⟩ := hy0.of_block (hb3.block b' (Nat.lt_of_lt_of_le hlt' hb.size))))
      go_wp2
      go_roundw
      case rel => exact ⟨k + 1, by omega, by go_num, bl_trans hb hb3⟩
      case measure => simp [intOf]; omega
    · clear hc hc' h1 h2 h3 h1' h2' h3' l1 l2 l3
      go_wp2
      go_ret
      exact ⟨rfl, hb⟩
end Go.Proofs.YtmpiadlmkeimdaaDoor
