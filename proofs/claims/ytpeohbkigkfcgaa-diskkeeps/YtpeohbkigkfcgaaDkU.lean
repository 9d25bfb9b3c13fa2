/- acts (10) at every kind that is an act. -/
import Derived.Test.YtpeohbkigkfcgaaDkT
namespace Go.Proofs.Ytpeohbkigkfcgaa
open Go Go.Shelf Go.ChangeShapes Go.WideShapes Go.ChangeAt Go.RowKit Go.Maps Go.Sort
set_option linter.unusedVariables false
theorem act_kinds {k : Int} (h : actB k = true) : k = 3 ∨ k = 4 ∨ k = 5 ∨ k = 6 ∨ k = 7 ∨ k = 12 ∨ k = 14 := by
  simp only [actB, Bool.or_eq_true, Bool.and_eq_true, decide_eq_true_eq] at h
  omega
/-- an operation that lies in memory -/
structure OpAt (w : World) (o : OpV) (pb : Option Addr) (cb : Nat) (pk : Option Addr) (ck : Nat) : Prop where
  nm : o.nm.size ≤ 9223372036854775806
  to : o.to.size ≤ 9223372036854775806
  bl : o.bs.length ≤ 140737488351232
  by' : BytesIn w (.slice pb o.bs.length cb) o.bs
  kl : o.ks.length ≤ 17592186043904
  ks : KsIn w (.slice pk o.ks.length ck) o.ks
theorem acts_ok {w : World} {d N : Nat} {K : Dk} {S : Nat → Prop} (h : DiskOK w d N K S) (hN : N < 800000) (hI : Inv K) (o : OpV) (dk at0 : Int) (pb : Option Addr) (cb : Nat) (pk : Option Addr) (ck : Nat) (c1 f1 : Int) (pf : Option Addr) (lf cf : Nat) (b1 : Bool) (ha : actB o.kind = true) (ho : OpAt w o pb cb pk ck) :
    Calls Try.prog 10 #[.pointer (some ⟨d, 0, none⟩), opV o dk at0 pb cb pk ck c1 pf lf cf f1 b1] w fun e w' => e = .returned (.int .i64 (actK o K).2) ∧ ∃ S', DiskOK w' d (N + 64) (actK o K).1 S' ∧ Sep w w' S S' := by
  rcases act_kinds ha with h3 | h3 | h3 | h3 | h3 | h3 | h3
  · exact acts3 h hN hI o dk at0 pb cb pk ck c1 f1 pf lf cf b1 h3 ho.nm ho.to
  · exact acts4 h hN hI o dk at0 pb cb pk ck c1 f1 pf lf cf b1 h3 ho.bl ho.by' ho.nm ho.to
  · exact acts5 h hN hI o dk at0 pb cb pk ck c1 f1 pf lf cf b1 h3 ho.nm ho.to
  · exact acts6 h hN hI o dk at0 pb cb pk ck c1 f1 pf lf cf b1 h3 ho.nm ho.to
  · exact acts7 h hN hI o dk at0 pb cb pk ck c1 f1 pf lf cf b1 h3 ho.nm ho.to
  · exact acts12 h hN hI o dk at0 pb cb pk ck c1 f1 pf lf cf b1 h3 ho.nm ho.to
  · exact acts14 h hN hI o dk at0 pb cb pk ck c1 f1 pf lf cf b1 h3 ho.kl ho.ks ho.nm ho.to
theorem acts_inv {o : OpV} {K : Dk} (h : Inv K) : Inv (actK o K).1 := act_inv h (fun _ _ _ => trivial) (fun _ => h.crash _)
end Go.Proofs.Ytpeohbkigkfcgaa
