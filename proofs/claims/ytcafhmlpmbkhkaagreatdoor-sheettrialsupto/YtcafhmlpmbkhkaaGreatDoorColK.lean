/- Columns of a trial balance in memory. -/
import Derived.Test.YtcafhmlpmbkhkaaGreatDoorSetN
namespace Go.Proofs.YtcafhmlpmbkhkaaGreatDoor
open Go Go.Shelf Go.ChangeShapes Go.WideShapes Go.ChangeAt Go.RowKit Go.Maps
set_option linter.unusedVariables false
structure Cm where
  acc : ByteArray
  deb : Int
  cre : Int
def Cm.vals (x : Cm) : List Value := [.string x.acc, .int .i64 x.deb, .int .i64 x.cre]
def kM : Kd Cm := ⟨Cm.vals, 3, 22, 31, 32⟩
theorem kM_ok : KdOK kM := kd_ok (fun _ => rfl) (by decide) (fun x u hu => by simp [kM, Cm.vals] at hu; rcases hu with rfl | rfl | rfl <;> rfl) Tryz.underlying22 (z := .agg #[.string ⟨#[]⟩, .int .i64 0, .int .i64 0]) (by kernel_rfl) rfl (by decide)
def ldM (x : Value) : Sem Value := Instr.loadAt 31 x
theorem ldM_is (x : Value) : Instr.loadAt 31 x = ldM x := rfl
theorem sizM : (Tryz.prog.info? 31).map (·.size) = some 3 := by kernel_rfl
def cvM (x : Cm) : Value := .agg #[.string x.acc, .int .i64 x.deb, .int .i64 x.cre]
theorem run_ldM {w : World} {b o : Nat} {x : Cm} (h : w.rangeAt b o x.vals) : (ldM (.pointer (some ⟨b, o, none⟩))).run Tryz.prog w = .ok (cvM x) w :=
  run_loadAt_mid (P := Tryz.prog) w b o 31 x.vals _ h Tryz.underlying31 rfl sizM
/-- the block of a variable that holds one -/
def obM (x : Cm) : Obj := .cells #[.string x.acc, .int .i64 x.deb, .int .i64 x.cre] 31
theorem ld_varM (w : World) (x : Cm) {W : World} (hb : Below (w.alloc (obM x)).heap.size (w.alloc (obM x)) W) : (ldM (.pointer (some ⟨w.heap.size, 0, none⟩))).run Tryz.prog W = .ok (cvM x) W := by
  refine run_ldM fun j u hu => ?_
  rw [Nat.zero_add]
  have h1 : (w.alloc (obM x)).cell? ⟨w.heap.size, j, none⟩ = some u := by
    have := cell_at (i := j) (heap_new w (obM x))
    rw [this]
    simpa [Cm.vals] using hu
  exact keep1 hb (by simp) h1
theorem Lies.ldM {W : World} {p : Option Addr} {L : List Cm} (h : Lies kM W p L) {k : Nat} (hk : k < L.length) : ∃ b o, p = some ⟨b, o, none⟩ ∧ b < W.heap.size ∧ (ldM (.pointer (some ⟨b, o + k * 3, none⟩))).run Tryz.prog W = .ok (cvM L[k]) W := by
  obtain ⟨b, o, e, hb, hr⟩ := h.2 k hk
  exact ⟨b, o, e, hb, run_ldM hr⟩
end Go.Proofs.YtcafhmlpmbkhkaaGreatDoor
