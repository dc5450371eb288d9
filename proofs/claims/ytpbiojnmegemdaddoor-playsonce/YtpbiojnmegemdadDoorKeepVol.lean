/- Volumes that stay while some blocks are written; raw things in memory. -/
import Derived.Test.YtpbiojnmegemdadDoorKeepOp
import Derived.Test.YtpbiojnmegemdadDoorVolMay
namespace Go.Proofs.YtpbiojnmegemdadDoor
open Go.RowKit
set_option linter.unusedVariables false
set_option linter.unusedSimpArgs false

/-- A volume whose blocks all keep to p. -/
def VolOff (p : Nat → Prop) (w : World) (v : Value) (V : VolM) : Prop :=
  ∃ B vn vs us, v = .agg #[vn, vs] ∧ w.ownsRow B 9 1 vn V.now.length (V.now.map enc) ∧ w.ownsRow B 36 1 vs V.snaps.length us ∧ OwnEach w B vn us V.snaps ∧ OwnEach w B vs us V.snaps ∧ Apart vn vs ∧
    (∀ g, vn.ownBlock = some g → p g) ∧ (∀ g, vs.ownBlock = some g → p g) ∧ ∀ u ∈ us, ∀ g, u.ownBlock = some g → p g

theorem VolNew.off {w : World} {B : Nat} {v : Value} {V : VolM} (h : VolNew w B v V) (p : Nat → Prop) (hp : ∀ g, B ≤ g → g < w.heap.size → p g) : VolOff p w v V := by
  obtain ⟨vn, vs, us, rfl, hn, hs, h1, h2, h3⟩ := h
  refine ⟨B, vn, vs, us, rfl, hn, hs, h1, h2, h3, fun g hg => hp g (own_ge hn g hg) (own_lt hn g hg), fun g hg => hp g (own_ge hs g hg) (own_lt hs g hg), fun u hu g hg => ?_⟩
  obtain ⟨i, hi, rfl⟩ := List.mem_iff_getElem.1 hu
  have hi' : us[i]? = some us[i] := List.getElem?_eq_getElem hi
  exact hp g (own_ge (h1.2 i _ hi').1 g hg) (own_lt (h1.2 i _ hi').1 g hg)

theorem VolOff.new {p : Nat → Prop} {w : World} {v : Value} {V : VolM} (h : VolOff p w v V) : ∃ B, VolNew w B v V := by
  obtain ⟨B, vn, vs, us, hv, hn, hs, h1, h2, h3, _⟩ := h
  exact ⟨B, vn, vs, us, hv, hn, hs, h1, h2, h3⟩

theorem VolOff.mono {p q : Nat → Prop} {w : World} {v : Value} {V : VolM} (h : VolOff p w v V) (hq : ∀ g, p g → g < w.heap.size → q g) : VolOff q w v V := by
  obtain ⟨B, vn, vs, us, hv, hn, hs, h1, h2, h3, p1, p2, p3⟩ := h
  refine ⟨B, vn, vs, us, hv, hn, hs, h1, h2, h3, fun g hg => hq g (p1 g hg) (own_lt hn g hg), fun g hg => hq g (p2 g hg) (own_lt hs g hg), fun u hu g hg => ?_⟩
  obtain ⟨i, hi, rfl⟩ := List.mem_iff_getElem.1 hu
  have hi' : us[i]? = some us[i] := List.getElem?_eq_getElem hi
  exact hq g (p3 _ hu g hg) (own_lt (h1.2 i _ hi').1 g hg)

/-- It stays where the blocks that keep to p stay. -/
theorem VolOff.stays {p : Nat → Prop} {w w' : World} {v : Value} {V : VolM} (h : VolOff p w v V) (hk : ∀ g, p g → g < w.heap.size → w'.heap[g]? = w.heap[g]?) : VolOff p w' v V := by
  obtain ⟨B, vn, vs, us, hv, hn, hs, h1, h2, h3, p1, p2, p3⟩ := h
  have key : ∀ (e : TypeId) (x : Value) (m : Nat) (xs : List Value), w.ownsRow B e 1 x m xs → (∀ g, x.ownBlock = some g → p g) → w'.ownsRow B e 1 x m xs := by
    intro e x m xs h hp
    refine ⟨h.1, ?_⟩
    have hlt := own_lt h
    rcases h.2 with h4 | ⟨g, cap, cur, rfl, h5, hg, r⟩
    · exact Or.inl h4
    · exact Or.inr ⟨g, cap, cur, rfl, h5, by rw [hk g (hp g rfl) (hlt g rfl)]; exact hg, r⟩
  have each : ∀ x, OwnEach w B x us V.snaps → OwnEach w' B x us V.snaps := fun x h => ⟨h.1, fun i u hu => ⟨key _ _ _ _ (h.2 i u hu).1 (p3 u (List.mem_of_getElem? hu)), (h.2 i u hu).2⟩⟩
  exact ⟨B, vn, vs, us, hv, key _ _ _ _ hn p1, key _ _ _ _ hs p2, each _ h1, each _ h2, h3, p1, p2, p3⟩

theorem VolOff.below {p : Nat → Prop} {w w' : World} {v : Value} {V : VolM} (h : VolOff p w v V) (hb : Below w.heap.size w w') : VolOff p w' v V := h.stays fun g _ hg => hb.block g hg

theorem VolOff.at {p : Nat → Prop} {w : World} {v : Value} {V : VolM} (h : VolOff p w v V) (hv : volFault V = 0) : VolAt w v V := by
  obtain ⟨B, hn⟩ := h.new
  have hm := volMay_of V hv
  have hl := volMay_len hm
  unfold volMay at hm
  simp only [Bool.and_eq_true, decide_eq_true_eq, List.all_eq_true] at hm
  exact hn.at ⟨by omega, by omega, fun l h => by have := hl.2.2 l h; omega⟩ (fun s hs => by have := (secMay_len hm.1.1).2 s hs; omega) (fun l h s hs => by have := (secMay_len (hm.2 l h)).2 s hs; omega)

theorem VolOff.form {p : Nat → Prop} {w : World} {v : Value} {V : VolM} (h : VolOff p w v V) : ∃ a c a' c', v = .agg #[.slice a V.now.length c, .slice a' V.snaps.length c'] := by
  obtain ⟨B, hn⟩ := h.new
  exact hn.form

/-- A slice of raw things. -/
def Raws (w : World) (v : Value) (l : List RawM) : Prop :=
  ∃ a cap, v = .slice a l.length cap ∧ l.length ≤ 140737488355328 ∧ ∀ i, i < l.length → ∃ b o, a = some ⟨b, o, none⟩ ∧ RawIn (l.getD i ⟨0, 0, 0, 0⟩) ∧
    w.cell? ⟨b, o + i * 4, none⟩ = some (.int .i64 (l.getD i ⟨0, 0, 0, 0⟩).kind) ∧ w.cell? ⟨b, o + i * 4 + 1, none⟩ = some (.int .i64 (l.getD i ⟨0, 0, 0, 0⟩).a) ∧
    w.cell? ⟨b, o + i * 4 + 2, none⟩ = some (.int .i64 (l.getD i ⟨0, 0, 0, 0⟩).b) ∧ w.cell? ⟨b, o + i * 4 + 3, none⟩ = some (.int .i64 (l.getD i ⟨0, 0, 0, 0⟩).c)

theorem Raws.below {w w' : World} {v : Value} {l : List RawM} (h : Raws w v l) (hb : Below w.heap.size w w') : Raws w' v l := by
  obtain ⟨a, cap, hv, hl, hc⟩ := h
  refine ⟨a, cap, hv, hl, fun i hi => ?_⟩
  obtain ⟨b, o, ha, hr, c0, c1, c2, c3⟩ := hc i hi
  have lt := lt_of_cell c0
  exact ⟨b, o, ha, hr, (hb.cell (p := ⟨b, _, none⟩) lt).trans c0, (hb.cell (p := ⟨b, _, none⟩) lt).trans c1, (hb.cell (p := ⟨b, _, none⟩) lt).trans c2, (hb.cell (p := ⟨b, _, none⟩) lt).trans c3⟩

end Go.Proofs.YtpbiojnmegemdadDoor
