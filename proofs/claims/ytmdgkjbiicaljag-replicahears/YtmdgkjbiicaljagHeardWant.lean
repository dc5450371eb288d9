/- The document's heard, at a Want. -/
import Derived.Test.YtmdgkjbiicaljagHeardWantA
import Derived.Test.YtmdgkjbiicaljagHeardWantB
namespace Go.Proofs.Ytmdgkjbiicaljag
open Go.RowKit
set_option linter.unusedVariables false

theorem heardWant_any (b B : Nat) (R : ReplM) (M : MsgM) (u : Value) (w : World) (h : HeldAt w b B R) (hm : MsgAt w u M) (hk : M.kind = 3) (hf : ReplFits R) (hmf : TextsIn M.log) (hws : R.wants.length = 3) (hgs : R.gives.length = 3) (hgn : R.given.length = 3) (hme : 0 ≤ R.me) (hme' : R.me < 3) (hf0 : 0 ≤ M.frm) (hf1 : M.frm ≤ 2) (hB : B ≤ w.heap.size) :
    Calls Try.prog 27 #[.pointer (some ⟨b, 0, none⟩), u] w (GoesTo b B (wantedR (wishR R M) M) (wishL R M ++ wantedL (wishR R M) M) w) := by
  by_cases hv : R.kept.view < M.view
  · have hw : wishes R M = true := by unfold wishes; rw [hk, decide_eq_true hv]; rfl
    unfold wishR wishL
    rw [if_pos hw, if_pos hw]
    exact heardWantA_any b B R M u w h hm hk hf hmf hws hgs hgn hme hme' hf0 hf1 hB hv
  · have hw : ¬ wishes R M = true := by unfold wishes; rw [decide_eq_false hv, Bool.and_false]; simp
    unfold wishR wishL
    rw [if_neg hw, if_neg hw]
    exact heardWantB_any b B R M u w h hm hk hf hmf hws hgs hgn hme hme' hf0 hf1 hB hv

end Go.Proofs.Ytmdgkjbiicaljag
