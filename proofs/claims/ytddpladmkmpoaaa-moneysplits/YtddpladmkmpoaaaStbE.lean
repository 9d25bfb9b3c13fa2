import Derived.Test.YtddpladmkmpoaaaStbC
import Derived.Test.YtddpladmkmpoaaaStbD
import Derived.Test.YtddpladmkmpoaaaStbI
namespace Go.Proofs.Ytddpladmkmpoaaa
open Go.ChangeShapes Go.WideShapes Go.ChangeAt Go.RowKit Go.Sort Go.Lib Go.Shelf
set_option linter.unusedVariables false
/-- slices.symMergeCmpFunc -/
theorem merge_any (blk cap : Nat) (d0 : Array Sh) (w0 : World) (R : RowK enc3 3 w0 blk 0 d0) (hsz : d0.size ≤ 1000) : ∀ (LL a m b : Nat) (d : Array Sh) (w : World), d.size = d0.size → SWK enc3 3 w0 blk 0 d w → a < m → m < b → b ≤ d0.size → b - a ≤ LL → Srt d a m → Srt d m b → Crs d a m b →
    Calls Try.prog 61 #[.slice (some ⟨blk, 0, none⟩) d0.size cap, .int .i64 a, .int .i64 m, .int .i64 b, .func (.func 47) #[] #[]] w fun e w' => e = .returned (.tuple #[]) ∧ ∃ c : Array Sh, SWK enc3 3 w0 blk 0 c w' ∧ PermIn a b d c ∧ Srt c a b := by
  intro LL
  induction LL with
  | zero => intro a m b d w _ _ h1 h2 _ h3; omega
  | succ LL ih =>
    intro a m b d w hs S ham hmb hb hLL h1 h2 hc
    have ih' : ∀ (a m b : Nat) (c : Array Sh) (W : World), c.size = d.size → SWK enc3 3 w0 blk 0 c W → a < m → m < b → b ≤ d.size → b - a ≤ LL → Srt c a m → Srt c m b → Crs c a m b →
        Calls Try.prog 61 #[.slice (some ⟨blk, 0, none⟩) d.size cap, .int .i64 a, .int .i64 m, .int .i64 b, .func (.func 47) #[] #[]] W fun e w' => e = .returned (.tuple #[]) ∧ ∃ c' : Array Sh, SWK enc3 3 w0 blk 0 c' w' ∧ PermIn a b c c' ∧ Srt c' a b := by
      intro a m b c W hcs hS k1 k2 k3 k4 k5 k6 k7
      rw [hs] at hcs k3 ⊢
      exact ih a m b c W hcs hS k1 k2 k3 k4 k5 k6 k7
    rw [← hs] at hb hsz ⊢
    by_cases e1 : m = a + 1
    · exact merge_one blk cap a m b d0 d w0 w R hs.symm S (by omega) hmb hb hsz h2 hc
    · have f1 : ((m : Int) - (a : Int) == 1) = false := by rw [beq_eq_false_iff_ne]; omega
      by_cases e2 : b = m + 1
      · exact merge_last blk cap a m b d0 d w0 w R hs.symm S ham f1 (by omega) hb hsz h1 hc
      · have f2 : ((b : Int) - (m : Int) == 1) = false := by rw [beq_eq_false_iff_ne]; omega
        by_cases e3 : (a + b) / 2 < m
        · exact merge_up blk cap a m b d0 d w0 w R hs.symm S ham f1 hmb f2 hb hsz h1 h2 hc LL hLL ih' e3
        · exact merge_dn blk cap a m b d0 d w0 w R hs.symm S ham f1 hmb f2 hb hsz h1 h2 hc LL hLL ih' (by omega)
theorem insert_at (blk cap : Nat) (d0 : Array Sh) (w0 : World) (R : RowK enc3 3 w0 blk 0 d0) (hsz : d0.size ≤ 1000) (a b : Nat) (d : Array Sh) (w : World) (hs : d.size = d0.size) (S : SWK enc3 3 w0 blk 0 d w) (hab : a ≤ b) (hb : b ≤ d0.size) (hr : Ris d a b) :
    Calls Try.prog 60 #[.slice (some ⟨blk, 0, none⟩) d0.size cap, .int .i64 a, .int .i64 b, .func (.func 47) #[] #[]] w fun e w' => e = .returned (.tuple #[]) ∧ ∃ c : Array Sh, SWK enc3 3 w0 blk 0 c w' ∧ PermIn a b d c ∧ Srt c a b := by
  rw [← hs] at hb hsz ⊢
  exact insert_any blk cap a b d0 d w0 w R hs.symm S hab hb hsz hr
end Go.Proofs.Ytddpladmkmpoaaa
