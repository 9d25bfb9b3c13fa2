import Derived.Test.YtpeohbkigkfcgabGreatDoorProg
import Derived.WalkKit
import Derived.ProofKit
import Derived.OpenShut
import Derived.WalkLawsBesides
import Derived.BigCall
import Derived.BigQuiet
import Derived.Deep.QuietTactic
import Derived.Laws.BitsAll
import Derived.Below
import Derived.Laws.AppendOwn
import Derived.Laws.AppendOwnNone
import Derived.Laws.OwnMore
import Derived.Deep.AppendLies
import Derived.Deep.MidRow
import Derived.Laws.MakeOwn
import Derived.Maps.AppendAt
import Derived.Lib.ConvBytes
import Derived.Lib.Strings
import Derived.Maps.Own
import Derived.Maps.OwnSet
import Derived.Laws.ResultCell
import Derived.Lib.BufferWrite
set_option linter.unusedVariables false
set_option linter.unusedSimpArgs false
set_option maxRecDepth 100000
set_option maxHeartbeats 16000000
namespace Go.Proofs.YtpeohbkigkfcgabGreatDoor
open Go Go.ChangeShapes Go.WideShapes Go.ChangeAt Go.RowKit
theorem hide {p : Prop} (h : p) : Hid p := h
theorem uh {p : Prop} (h : Hid p) : p := h
theorem setCell_drewN (w : World) (n : Nat) (a : Addr) (v : Value) : (w.drewN n).setCell a v = (w.setCell a v).drewN n := rfl
theorem alloc_drewN (w : World) (n : Nat) (o : Obj) : (w.drewN n).alloc o = (w.alloc o).drewN n := rfl
theorem bal {w W : World} (h : Below w.heap.size w W) (o : Obj) : Below w.heap.size w (W.alloc o) := h.alloc h.size o
theorem below_drewN {B : Nat} {a w : World} (h : Below B a w) (n : Nat) : Below B a (w.drewN n) := ⟨h.os, h.tape, h.output, h.size, h.block⟩
theorem step_below {B : Nat} {a W w1 : World} (h : Below B a W) (hB : B <= a.heap.size) (hb : Below W.heap.size W w1) : Below B a w1 := h.trans (hb.mono (Nat.le_trans hB h.size))
theorem keep1 {W w1 : World} (hb : Below W.heap.size W w1) {b o : Nat} {v : Value} (h : b < W.heap.size) (hv : W.cell? ⟨b, o, none⟩ = some v) : w1.cell? ⟨b, o, none⟩ = some v := (hb.cell (p := ⟨b, o, none⟩) h).trans hv
theorem keepF {W w1 : World} (hb : Below W.heap.size W w1) {b o : Nat} {v : Bool} (h : b < W.heap.size) (hv : W.frozen? ⟨b, o, none⟩ = v) : w1.frozen? ⟨b, o, none⟩ = v := (hb.frozen (p := ⟨b, o, none⟩) h).trans hv
theorem drew_two (w : World) (m n : Nat) : (w.drewN m).drewN n = w.drewN (m + n) := World.drewN_drewN w m n
theorem info5 : (Tryz.prog.info? 5).map (fun i => (i.zero, i.size, i.bytes)) = some (some (.int .u8 0), 1, 1) := by kernel_rfl
theorem info_parts {t : TypeId} {z : Value} {a b : Nat} (h : (Tryz.prog.info? t).map (fun i => (i.zero, i.size, i.bytes)) = some (some z, a, b)) : ∃ i, Tryz.prog.info? t = some i /\ i.zero = some z /\ i.size = a /\ i.bytes = b := by
 obtain ⟨i, hi, hz⟩ := Option.map_eq_some_iff.1 h
 simp only [Prod.mk.injEq] at hz
 exact ⟨i, hi, hz.1, hz.2.1, hz.2.2⟩
theorem own_open {w : World} {base size n : Nat} {e : TypeId} {v : Value} {xs : List Value} (h : w.ownsRow base e size v n xs) (hn : 0 < n) : ∃ g c, v = .slice (some ⟨g, 0, none⟩) n c := by
 rcases h.2 with ⟨_, h0⟩ | ⟨g, cap, cur, rfl, _⟩
 ·omega
 ·exact ⟨g, cap, rfl⟩
theorem grown_of_below {w w' : World} (h : Below w.heap.size w w') : w.grownBy w' none := ⟨h.os, h.tape, h.output, h.size, fun k hk _ => h.block k hk⟩
theorem below_of_grown {w w' : World} (h : w.grownBy w' none) : Below w.heap.size w w' := ⟨h.os, h.tape, h.output, h.size, fun k hk => h.block k hk (by simp)⟩
theorem own_below {w w' : World} {base size n : Nat} {e : TypeId} {v : Value} {xs : List Value} (h : w.ownsRow base e size v n xs) (hb : Below w.heap.size w w') : w'.ownsRow base e size v n xs :=
 h.kept (grown_of_below hb) (by cases hv : v.ownBlock <;> simp)
theorem row_far {w w' : World} {B e s : Nat} {v : Value} {n : Nat} {xs : List Value} (h : w.ownsRow B e s v n xs) (hq : ∀ q, v.ownBlock = some q -> w'.heap[q]? = w.heap[q]?) : w'.ownsRow B e s v n xs := by
 refine ⟨h.1, ?_⟩
 rcases h.2 with h1 | ⟨g, cap, cur, rfl, hb, hg, rest⟩
 ·exact .inl h1
 ·exact .inr ⟨g, cap, cur, rfl, hb, (hq g rfl).trans hg, rest⟩
theorem row_base {W : World} {base base' : Nat} {e : TypeId} {size : Nat} {v : Value} {k : Nat} {xs : List Value} (h : W.ownsRow base e size v k xs) (hb : base' <= base) : W.ownsRow base' e size v k xs := by
 refine ⟨h.1, ?_⟩
 rcases h.2 with hn | ⟨g, cap, cur, hv, hbg, rest⟩
 ·exact .inl hn
 ·exact .inr ⟨g, cap, cur, hv, Nat.le_trans hb hbg, rest⟩
def bcs (bs : List UInt8) : List Value := bs.map fun b => .int .u8 (b.toNat : Int)
theorem bcs_len (bs : List UInt8) : (bcs bs).length = bs.length := by simp [bcs]
theorem bcs_append (a b : List UInt8) : bcs (a ++ b) = bcs a ++ bcs b := by simp [bcs]
theorem bcs_get {bs : List UInt8} {j : Nat} (h : j < bs.length) : (bcs bs)[j]? = some (.int .u8 ((bs[j]).toNat : Int)) := by simp [bcs, h]
theorem bcs_one (bs : List UInt8) : ∀ u ∈ bcs bs, u.oneCell' = true := by
 intro u hu
 simp only [bcs, List.mem_map] at hu
 obtain ⟨i, _, rfl⟩ := hu
 rfl
theorem bcs_take (bs : List UInt8) (k : Nat) : bcs (bs.take k) = (bcs bs).take k := by simp [bcs, List.map_take]
def nameB (c : Nat) : Bool := (decide (97 <= c) && decide (c <= 122)) || (decide (48 <= c) && decide (c <= 57)) || decide (c = 46) || decide (c = 45) || decide (c = 95)
theorem inName_any (c : Nat) (w : World) : Calls Tryz.prog 258 #[.int .u8 (c : Int)] w fun e w' => e = .returned (.bool (nameB c)) /\ w' = w := by
 by_cases h1 : 97 <= c
 ·by_cases h2 : c <= 122
  ·have i0 : (97 : Int) <= (c : Int) := by omega
   have i1 : (c : Int) <= 122 := by omega
   have hv : nameB c = true := by simp [nameB]; omega
   rw [hv]
   go_enter Tryz.func258, Tryz.ntmps258
   go_wp2_with fail
   go_ret
   exact ⟨rfl, rfl⟩
  ·have i0 : (97 : Int) <= (c : Int) := by omega
   have i1 : ¬ (c : Int) <= 122 := by omega
   have i2 : (48 : Int) <= (c : Int) := by omega
   have i3 : ¬ (c : Int) <= 57 := by omega
   have i4 : ((c : Int) == 46) = false := by simp; omega
   have i5 : ((c : Int) == 45) = false := by simp; omega
   have i6 : ((c : Int) == 95) = false := by simp; omega
   have hv : nameB c = false := by simp [nameB]; omega
   rw [hv]
   go_enter Tryz.func258, Tryz.ntmps258
   go_wp2_with fail
   go_ret
   exact ⟨rfl, rfl⟩
 ·by_cases h2 : 48 <= c
  ·by_cases h3 : c <= 57
   ·have i0 : ¬ (97 : Int) <= (c : Int) := by omega
    have i1 : (48 : Int) <= (c : Int) := by omega
    have i2 : (c : Int) <= 57 := by omega
    have hv : nameB c = true := by simp [nameB]; omega
    rw [hv]
    go_enter Tryz.func258, Tryz.ntmps258
    go_wp2_with fail
    go_ret
    exact ⟨rfl, rfl⟩
   ·by_cases h4 : c = 95
    ·have i0 : ¬ (97 : Int) <= (c : Int) := by omega
     have i1 : (48 : Int) <= (c : Int) := by omega
     have i2 : ¬ (c : Int) <= 57 := by omega
     have i3 : ((c : Int) == 46) = false := by simp; omega
     have i4 : ((c : Int) == 45) = false := by simp; omega
     have i5 : ((c : Int) == 95) = true := by simp; omega
     have hv : nameB c = true := by simp [nameB]; omega
     rw [hv]
     go_enter Tryz.func258, Tryz.ntmps258
     go_wp2_with fail
     go_ret
     exact ⟨rfl, rfl⟩
    ·have i0 : ¬ (97 : Int) <= (c : Int) := by omega
     have i1 : (48 : Int) <= (c : Int) := by omega
     have i2 : ¬ (c : Int) <= 57 := by omega
     have i3 : ((c : Int) == 46) = false := by simp; omega
     have i4 : ((c : Int) == 45) = false := by simp; omega
     have i5 : ((c : Int) == 95) = false := by simp; omega
     have hv : nameB c = false := by simp [nameB]; omega
     rw [hv]
     go_enter Tryz.func258, Tryz.ntmps258
     go_wp2_with fail
     go_ret
     exact ⟨rfl, rfl⟩
  ·by_cases h4 : c = 46
   ·have i0 : ¬ (97 : Int) <= (c : Int) := by omega
    have i1 : ¬ (48 : Int) <= (c : Int) := by omega
    have i2 : ((c : Int) == 46) = true := by simp; omega
    have hv : nameB c = true := by simp [nameB]; omega
    rw [hv]
    go_enter Tryz.func258, Tryz.ntmps258
    go_wp2_with fail
    go_ret
    exact ⟨rfl, rfl⟩
   ·by_cases h5 : c = 45
    ·have i0 : ¬ (97 : Int) <= (c : Int) := by omega
     have i1 : ¬ (48 : Int) <= (c : Int) := by omega
     have i2 : ((c : Int) == 46) = false := by simp; omega
     have i3 : ((c : Int) == 45) = true := by simp; omega
     have hv : nameB c = true := by simp [nameB]; omega
     rw [hv]
     go_enter Tryz.func258, Tryz.ntmps258
     go_wp2_with fail
     go_ret
     exact ⟨rfl, rfl⟩
    ·have i0 : ¬ (97 : Int) <= (c : Int) := by omega
     have i1 : ¬ (48 : Int) <= (c : Int) := by omega
     have i2 : ((c : Int) == 46) = false := by simp; omega
     have i3 : ((c : Int) == 45) = false := by simp; omega
     have i4 : ((c : Int) == 95) = false := by simp; omega
     have hv : nameB c = false := by simp [nameB]; omega
     rw [hv]
     go_enter Tryz.func258, Tryz.ntmps258
     go_wp2_with fail
     go_ret
     exact ⟨rfl, rfl⟩
def bsN (s : ByteArray) (j : Nat) : Nat := (s.data.toList.getD j 0).toNat
def nameS (s : ByteArray) : Bool := decide (1 <= s.size) && decide (s.size <= 40) && (List.range s.size).all fun j => nameB (bsN s j)
theorem nameS_bad {s : ByteArray} {k : Nat} (h : k < s.size) (hb : nameB (bsN s k) = false) : nameS s = false := by
 have : ((List.range s.size).all fun j => nameB (bsN s j)) = false := by
  rw [List.all_eq_false]
  exact ⟨k, List.mem_range.2 h, by simp [hb]⟩
 simp [nameS, this]
theorem nameS_good {s : ByteArray} (h1 : 1 <= s.size) (h2 : s.size <= 40) (h : ∀ k, k < s.size -> nameB (bsN s k) = true) : nameS s = true := by
 have : ((List.range s.size).all fun j => nameB (bsN s j)) = true := by
  rw [List.all_eq_true]
  exact fun j hj => h j (List.mem_range.1 hj)
 simp [nameS, this, h1, h2]
theorem empty_of_size {s : ByteArray} (h : s.size = 0) : s = ⟨#[]⟩ := by
 obtain ⟨d⟩ := s
 have : d = #[] := Array.size_eq_zero_iff.1 h
 rw [this]
theorem ne_of_size {s : ByteArray} (h : ¬ s.size = 0) : s.toList.isEmpty = false := by
 rw [Lib.toList_data, List.isEmpty_eq_false_iff]
 intro e
 have := congrArg List.length e
 exact h (by simpa using this)
theorem isName_any (s : ByteArray) (hs : s.size <= 9223372036854775807) (w : World) : Calls Tryz.prog 206 #[.string s] w fun e w' => e = .returned (.bool (nameS s)) /\ Below w.heap.size w w' := by
 by_cases h0 : s.size = 0
 ·obtain rfl := empty_of_size h0
  go_enter Tryz.func206, Tryz.ntmps206
  go_wp2_with fail
  go_ret
  exact ⟨rfl, Below.refl _ _⟩
 ·have he := ne_of_size h0
  by_cases h40 : s.size <= 40
  ·have i1 : ¬ (40 : Int) < (s.size : Int) := by omega
   have hcv := Lib.run_convert_string_bytes (P := Tryz.prog) w 9 55 5 s Tryz.underlying9 Tryz.underlying55 Tryz.underlying5
   obtain ⟨w1, hw1⟩ : ∃ w1, w1 = Lib.bytesWorld w 5 s := ⟨_, rfl⟩
   obtain ⟨C, hC⟩ : ∃ C, C = grownCap w s.size 0 5 := ⟨_, rfl⟩
   have HCL : Hid (∀ j, j < s.size -> w1.cell? ⟨w.heap.size, j, none⟩ = some (.int .u8 (bsN s j : Int))) := fun j hj => by rw [hw1]; exact Lib.bytesWorld_cell w 5 s j hj
   have HB : Hid (Below w.heap.size w w1) := by
    rw [hw1]
    exact ⟨rfl, rfl, rfl, by rw [Lib.bytesWorld_size]; omega, fun k hk => Lib.bytesWorld_at_old w 5 s k hk⟩
   rw [<- hw1, <- hC] at hcv
   clear hw1 hC
   go_enter Tryz.func206, Tryz.ntmps206
   go_wp2_with fail
   go_loopw [15] (fun v wr => ∃ k : Nat, v = .int .i64 (k : Int) /\ k <= s.size /\ wr = w1 /\ ∀ j, j < k -> nameB (bsN s j) = true) (fun v _ => s.size - (intOf v).toNat)
   case atStart => exact ⟨0, rfl, by omega, rfl, fun j hj => by omega⟩
   case round =>
    obtain ⟨k, rfl, hk, hwr, hall⟩ := hrel
    subst hwr
    have HA := hide hall
    clear hall
    by_cases hlt : k < s.size
    ·have j1 : (k : Int) < (s.size : Int) := by omega
     have j2 : (0 : Int) <= (k : Int) := by omega
     have hc := uh HCL k hlt
     go_wp2_with fail
     refine (inName_any (bsN s k) wr).mono ?_
     rintro e w2 ⟨rfl, hw2⟩
     rw [hw2]
     clear hw2 w2
     cases hb : nameB (bsN s k) with
     | false =>
      go_wp2_with fail
      go_ret
      exact ⟨by rw [nameS_bad hlt hb]; rfl, uh HB⟩
     | true =>
      go_wp2_with fail
      refine ⟨⟨k + 1, by go_num, by omega, trivial, fun j hj => ?_⟩, by simp [intOf]; omega⟩
      by_cases e : j = k
      ·rw [e]; exact hb
      ·exact uh HA j (by omega)
    ·have j1 : ¬ (k : Int) < (s.size : Int) := by omega
     have hk' : k = s.size := by omega
     go_wp2_with fail
     go_ret
     exact ⟨by rw [nameS_good (by omega) h40 (fun j hj => uh HA j (by omega))]; rfl, uh HB⟩
  ·have i1 : (40 : Int) < (s.size : Int) := by omega
   have hv : nameS s = false := by simp [nameS]; omega
   go_enter Tryz.func206, Tryz.ntmps206
   go_wp2_with fail
   go_ret
   exact ⟨by rw [hv]; rfl, Below.refl _ _⟩
def fileElem : Value -> Option (DataW Value × List MemPlace)
 | .agg xs => match xs.toList with
  | [.slice p n c, .int .i64 y] => some (.held (.agg #[.slice p n c, .int .i64 y]), [])
  | _ => none
 | _ => none
theorem fileElem_mk (p : Option Addr) (n c : Nat) (y : Int) : fileElem (.agg #[.slice p n c, .int .i64 y]) = some (.held (.agg #[.slice p n c, .int .i64 y]), []) := rfl
theorem fileElem_inv {v : Value} {z : DataW Value × List MemPlace} (h : fileElem v = some z) : ∃ p n c y, v = .agg #[.slice p n c, .int .i64 y] /\ z = (.held (.agg #[.slice p n c, .int .i64 y]), []) := by
 unfold fileElem at h
 split at h
 ·rename_i xs
  split at h
  ·rename_i p n c y he
   obtain ⟨l⟩ := xs
   simp only at he
   subst he
   exact ⟨p, n, c, y, rfl, (Option.some.inj h).symm⟩
  ·cases h
 ·cases h
theorem zero67 (w : World) : (zeroValue 88).run Tryz.prog w = .ok (.agg #[.slice none 0 0, .int .i64 0]) w := by kernel_rfl
theorem key9 {s : ByteArray} (h : s.size <= maxLen) : keyOf Tryz.prog 9 (.string s) = some (.string s.data.toList) := by
 simp [keyOf, mapKey, Tryz.underlying9, h]
theorem look_nil (s : ByteArray) (w : World) : (Instr.lookup 83 (.map none) (.string s) true).run Tryz.prog w = .ok (.tuple #[.agg #[.slice none 0 0, .int .i64 0], .bool false]) w := by kernel_rfl
structure DiskAt (W : World) (d : Nat) (cap : Int) (mo : Option Nat) (fuse : Int) (down : Bool) (n : Nat) (D : DataW Value) : Prop where
 c0 : W.cell? ⟨d, 0, none⟩ = some (.int .i64 cap)
 c1 : W.cell? ⟨d, 1, none⟩ = some (.map mo)
 c2 : W.cell? ⟨d, 2, none⟩ = some (.int .i64 fuse)
 c3 : W.cell? ⟨d, 3, none⟩ = some (.bool down)
 files : (mo = none /\ D = .map []) \/ ∃ b, mo = some b /\ W.ownsMap Tryz.prog 9 fileElem b n D
def noFile : Value := .agg #[.slice none 0 0, .int .i64 0]
def FindOut (s : ByteArray) (D : DataW Value) (w : World) (e : Ending) (w' : World) : Prop :=
 (∃ p n c y er, e = .returned (.tuple #[.agg #[.slice p n c, .int .i64 y], .int .i64 er]) /\
  ((nameS s = false /\ er = 32) \/ (nameS s = true /\ Maps.has D (.string s.data.toList) = false /\ er = 31) \/ (nameS s = true /\ Maps.has D (.string s.data.toList) = true /\ er = 0 /\ D.atKey (.string s.data.toList) (.held noFile) = .held (.agg #[.slice p n c, .int .i64 y]))) /\ (er ≠ 0 -> p = none /\ n = 0 /\ c = 0 /\ y = 0)) /\ Below w.heap.size w w'
theorem res121 : Tryz.f147.results = #[.cell 4 88, .tmp 5] := by rfl
theorem ret_file {w : World} {b n c : Nat} {p : Option Addr} {y : Int} {er : Value} {tmps : Array Value} (c0 : w.cell? ⟨b, 0, none⟩ = some (.slice p n c)) (c1 : w.cell? ⟨b, 1, none⟩ = some (.int .i64 y)) (h4 : tmps.getD 4 undef = .pointer (some ⟨b, 0, none⟩)) (h5 : tmps.getD 5 undef = er) :
  (results Tryz.f147 tmps).run Tryz.prog w = .ok (.tuple #[.agg #[.slice p n c, .int .i64 y], er]) w := by
 rw [results_cell_tmp res121, h4, h5]
 go_simp
theorem find_bad (s : ByteArray) (hs : s.size <= 9223372036854775807) (d : Nat) (D : DataW Value) (w : World) (hb : nameS s = false) : Calls Tryz.prog 147 #[.pointer (some ⟨d, 0, none⟩), .string s] w fun e w' => FindOut s D w e w' := by
 go_enter Tryz.func147, Tryz.ntmps147
 go_wp2_with fail
 refine (isName_any s hs _).mono ?_
 rintro e w1 ⟨rfl, hb1⟩
 rw [hb]
 have c0 : w1.cell? ⟨w.heap.size, 0, none⟩ = some (.slice none 0 0) := (hb1.cell (p := ⟨w.heap.size, 0, none⟩) (by simp)).trans (by simp)
 have c1 : w1.cell? ⟨w.heap.size, 1, none⟩ = some (.int .i64 0) := (hb1.cell (p := ⟨w.heap.size, 1, none⟩) (by simp)).trans (by simp)
 have f0 : w1.frozen? ⟨w.heap.size, 0, none⟩ = false := (hb1.frozen (p := ⟨w.heap.size, 0, none⟩) (by simp)).trans (by simp)
 have f1 : w1.frozen? ⟨w.heap.size, 1, none⟩ = false := (hb1.frozen (p := ⟨w.heap.size, 1, none⟩) (by simp)).trans (by simp)
 go_wp2_with fail
 refine bodyPost_ret (ret_file (b := w.heap.size) (p := none) (n := 0) (c := 0) (y := 0) (er := .int .i64 32) (by go_simp) (by go_simp) rfl rfl) rfl ?_
 exact ⟨⟨none, 0, 0, 0, 32, rfl, .inl ⟨hb, rfl⟩, fun _ => ⟨rfl, rfl, rfl, rfl⟩⟩, (((bal (Below.refl w.heap.size w) _).trans (hb1.mono (by simp))).setCell (p := ⟨w.heap.size, 0, none⟩) (Nat.le_refl _) _).setCell (p := ⟨w.heap.size, 1, none⟩) (Nat.le_refl _) _⟩
theorem find_good (s : ByteArray) (hs : s.size <= maxLen) (d b n : Nat) (cap fuse : Int) (down : Bool) (D : DataW Value) (w : World) (hD : DiskAt w d cap (some b) fuse down n D) (hm : w.ownsMap Tryz.prog 9 fileElem b n D) (hb : nameS s = true) :
  Calls Tryz.prog 147 #[.pointer (some ⟨d, 0, none⟩), .string s] w fun e w' => FindOut s D w e w' := by
 have hd1 : d < w.heap.size := World.block_lt_of_cell? w ⟨d, 1, none⟩ hD.c1
 have HM := hide hm; have HD := hide hD
 clear hm hD
 go_enter Tryz.func147, Tryz.ntmps147
 go_wp2_with fail
 refine (isName_any s (by unfold maxLen at hs; omega) _).mono ?_
 rintro e w1 ⟨rfl, hb1⟩
 rw [hb]
 have c0 : w1.cell? ⟨w.heap.size, 0, none⟩ = some (.slice none 0 0) := (hb1.cell (p := ⟨w.heap.size, 0, none⟩) (by simp)).trans (by simp)
 have c1 : w1.cell? ⟨w.heap.size, 1, none⟩ = some (.int .i64 0) := (hb1.cell (p := ⟨w.heap.size, 1, none⟩) (by simp)).trans (by simp)
 have f0 : w1.frozen? ⟨w.heap.size, 0, none⟩ = false := (hb1.frozen (p := ⟨w.heap.size, 0, none⟩) (by simp)).trans (by simp)
 have f1 : w1.frozen? ⟨w.heap.size, 1, none⟩ = false := (hb1.frozen (p := ⟨w.heap.size, 1, none⟩) (by simp)).trans (by simp)
 have B1 : Hid (Below w.heap.size w w1) := (bal (Below.refl w.heap.size w) _).trans (hb1.mono (by simp))
 have hz1 := (uh B1).size
 have hz2 : w.heap.size < w1.heap.size := by have := hb1.size; simp at this; omega
 have dc : w1.cell? ⟨d, 1, none⟩ = some (.map (some b)) := ((uh B1).cell (p := ⟨d, 1, none⟩) hd1).trans (uh HD).c1
 have M1 := hide ((uh HM).kept (grown_of_below (uh B1)) (by simp))
 clear hb1
 cases hh : Maps.has D (.string s.data.toList) with
 | false =>
  go_wp2_with (at_lookup; refine wpList_lookup_own_ok _ rfl _ _ 83 rfl 9 88 (Maps.string_keyed Tryz.underlying9) Tryz.underlying83 fileElem (zero67 _) (.held noFile) [] rfl b n D rfl (uh M1) _ (.string s.data.toList) rfl (key9 hs) ?_; intro v ps hv; obtain ⟨p, m, c, y, rfl, hz⟩ := fileElem_inv hv; have HV := hide (congrArg Prod.fst hz); clear hv hz)
  refine bodyPost_ret (ret_file (b := w.heap.size) (p := none) (n := 0) (c := 0) (y := 0) (er := .int .i64 31) (by go_simp) (by go_simp) rfl rfl) rfl ?_
  exact ⟨⟨none, 0, 0, 0, 31, rfl, .inr (.inl ⟨hb, hh, rfl⟩), fun _ => ⟨rfl, rfl, rfl, rfl⟩⟩, ((((uh B1).setCell (p := ⟨w.heap.size, 0, none⟩) (Nat.le_refl _) _).setCell (p := ⟨w.heap.size, 1, none⟩) (Nat.le_refl _) _).alloc (by simp; omega) _)⟩
 | true =>
  go_wp2_with (at_lookup; refine wpList_lookup_own_ok _ rfl _ _ 83 rfl 9 88 (Maps.string_keyed Tryz.underlying9) Tryz.underlying83 fileElem (zero67 _) (.held noFile) [] rfl b n D rfl (uh M1) _ (.string s.data.toList) rfl (key9 hs) ?_; intro v ps hv; obtain ⟨p, m, c, y, rfl, hz⟩ := fileElem_inv hv; have HV := hide (congrArg Prod.fst hz); clear hv hz)
  refine bodyPost_ret (ret_file (b := w.heap.size) (p := p) (n := m) (c := c) (y := y) (er := .int .i64 0) (by go_simp) (by go_simp) rfl rfl) rfl ?_
  exact ⟨⟨p, m, c, y, 0, rfl, .inr (.inr ⟨hb, hh, rfl, uh HV⟩), fun h => absurd rfl h⟩, ((((uh B1).setCell (p := ⟨w.heap.size, 0, none⟩) (Nat.le_refl _) _).setCell (p := ⟨w.heap.size, 1, none⟩) (Nat.le_refl _) _).alloc (by simp; omega) _)⟩
theorem find_nil (s : ByteArray) (hs : s.size <= maxLen) (d : Nat) (w : World) (hc : w.cell? ⟨d, 1, none⟩ = some (.map none)) (hb : nameS s = true) :
  Calls Tryz.prog 147 #[.pointer (some ⟨d, 0, none⟩), .string s] w fun e w' => FindOut s (.map []) w e w' := by
 have hd1 : d < w.heap.size := World.block_lt_of_cell? w ⟨d, 1, none⟩ hc
 go_enter Tryz.func147, Tryz.ntmps147
 go_wp2_with fail
 refine (isName_any s (by unfold maxLen at hs; omega) _).mono ?_
 rintro e w1 ⟨rfl, hb1⟩
 rw [hb]
 have c0 : w1.cell? ⟨w.heap.size, 0, none⟩ = some (.slice none 0 0) := (hb1.cell (p := ⟨w.heap.size, 0, none⟩) (by simp)).trans (by simp)
 have c1 : w1.cell? ⟨w.heap.size, 1, none⟩ = some (.int .i64 0) := (hb1.cell (p := ⟨w.heap.size, 1, none⟩) (by simp)).trans (by simp)
 have f0 : w1.frozen? ⟨w.heap.size, 0, none⟩ = false := (hb1.frozen (p := ⟨w.heap.size, 0, none⟩) (by simp)).trans (by simp)
 have f1 : w1.frozen? ⟨w.heap.size, 1, none⟩ = false := (hb1.frozen (p := ⟨w.heap.size, 1, none⟩) (by simp)).trans (by simp)
 have B1 : Hid (Below w.heap.size w w1) := (bal (Below.refl w.heap.size w) _).trans (hb1.mono (by simp))
 have hz1 := (uh B1).size
 have hz2 : w.heap.size < w1.heap.size := by have := hb1.size; simp at this; omega
 have dc : w1.cell? ⟨d, 1, none⟩ = some (.map none) := ((uh B1).cell (p := ⟨d, 1, none⟩) hd1).trans hc
 have hl : (Instr.lookup 83 (.map none) (.string s) true).run Tryz.prog w1 = .ok (.tuple #[.agg #[.slice none 0 0, .int .i64 0], .bool false]) w1 := look_nil s w1
 clear hb1
 go_wp2_with fail
 refine bodyPost_ret (ret_file (b := w.heap.size) (p := none) (n := 0) (c := 0) (y := 0) (er := .int .i64 31) (by go_simp) (by go_simp) rfl rfl) rfl ?_
 exact ⟨⟨none, 0, 0, 0, 31, rfl, .inr (.inl ⟨hb, rfl, rfl⟩), fun _ => ⟨rfl, rfl, rfl, rfl⟩⟩, ((((uh B1).setCell (p := ⟨w.heap.size, 0, none⟩) (Nat.le_refl _) _).setCell (p := ⟨w.heap.size, 1, none⟩) (Nat.le_refl _) _).alloc (by simp; omega) _)⟩
theorem find_any (s : ByteArray) (hs : s.size <= maxLen) (d n : Nat) (mo : Option Nat) (cap fuse : Int) (down : Bool) (D : DataW Value) (w : World) (hD : DiskAt w d cap mo fuse down n D) :
  Calls Tryz.prog 147 #[.pointer (some ⟨d, 0, none⟩), .string s] w fun e w' => FindOut s D w e w' := by
 cases hb : nameS s with
 | false => exact find_bad s (by unfold maxLen at hs; omega) d D w hb
 | true =>
  rcases hD.files with ⟨rfl, rfl⟩ | ⟨b, rfl, hm⟩
  ·exact find_nil s hs d w hD.c1 hb
  ·exact find_good s hs d b n cap fuse down D w hD hm hb
theorem map_some (b : Nat) (w : World) : (binOp .eql 83 (.map (some b)) (.map none)).run Tryz.prog w = .ok (.bool false) w := by kernel_rfl
theorem map_none (w : World) : (binOp .eql 83 (.map none) (.map none)).run Tryz.prog w = .ok (.bool true) w := by kernel_rfl
def PutOut (s : ByteArray) (v : Value) (d : Nat) (cap : Int) (mo : Option Nat) (fuse : Int) (down : Bool) (n : Nat) (D : DataW Value) (w : World) (e : Ending) (w' : World) : Prop :=
 (∃ r, e = .returned r) /\ ∃ b', DiskAt w' d cap (some b') fuse down (n + 1) (D.put (.string s.data.toList) (.held v)) /\ (mo = some b' \/ (mo = none /\ w.heap.size <= b')) /\
  w'.os = w.os /\ w'.tape = w.tape /\ w'.output = w.output /\ w.heap.size <= w'.heap.size /\ (∀ k, k < w.heap.size -> some k ≠ mo -> (mo = none -> k ≠ d) -> w'.heap[k]? = w.heap[k]?) /\ ∀ j, w'.frozen? ⟨d, j, none⟩ = w.frozen? ⟨d, j, none⟩
theorem put_some (s : ByteArray) (hs : s.size <= maxLen) (p : Option Addr) (m c : Nat) (y : Int) (d b n : Nat) (hn : n < maxLen) (cap fuse : Int) (down : Bool) (D : DataW Value) (w : World) (hD : DiskAt w d cap (some b) fuse down n D) (hm : w.ownsMap Tryz.prog 9 fileElem b n D) (hdb : d ≠ b) :
  Calls Tryz.prog 146 #[.pointer (some ⟨d, 0, none⟩), .string s, .agg #[.slice p m c, .int .i64 y]] w fun e w' => PutOut s (.agg #[.slice p m c, .int .i64 y]) d cap (some b) fuse down n D w e w' := by
 have hd1 : d < w.heap.size := World.block_lt_of_cell? w ⟨d, 1, none⟩ hD.c1
 have dc := hD.c1
 obtain ⟨w', hrun, hm', hg'⟩ := ((hm.alloc (.cells #[.slice p m c, .int .i64 y] 88)).drew).update (t := 83) (e := 88) (Maps.string_keyed Tryz.underlying9) Tryz.underlying83 hn (key9 hs) (fileElem_mk p m c y)
 have hca : (w.alloc (.cells #[.slice p m c, .int .i64 y] 88)).cell? ⟨d, 1, none⟩ = some (.map (some b)) := (Below.cell ((Below.refl w.heap.size w).alloc (Nat.le_refl _) _) (p := ⟨d, 1, none⟩) hd1).trans dc
 have HM := hide hm'; have HG := hide hg'; have HD := hide hD
 clear hm' hg' hD hm
 have hms := fun W => map_some b W
 go_enter Tryz.func146, Tryz.ntmps146
 go_wp2_with fail
 go_region
 all_goals go_wp2_with fail
 go_end0
 have hg := uh HG
 have hold : ∀ k, k < w.heap.size -> k ≠ b -> w'.heap[k]? = w.heap[k]? := fun k hk hne => (hg.block k (by simp; omega) (fun e => hne (Option.some.inj e))).trans (Below.heap_alloc w _ k hk)
 have hcell : ∀ j, w'.cell? ⟨d, j, none⟩ = w.cell? ⟨d, j, none⟩ := fun j => World.cell?_of_block (a := ⟨d, j, none⟩) (hold d hd1 hdb)
 refine ⟨⟨_, rfl⟩, b, ⟨(hcell 0).trans (uh HD).c0, (hcell 1).trans (uh HD).c1, (hcell 2).trans (uh HD).c2, (hcell 3).trans (uh HD).c3, .inr ⟨b, rfl, uh HM⟩⟩, .inl rfl, hg.os, hg.tape, hg.output, ?_, fun k hk h1 _ => hold k hk (fun e => h1 (by rw [e])), fun j => World.frozen?_of_block (a := ⟨d, j, none⟩) (hold d hd1 hdb)⟩
 have := hg.size
 simp at this
 omega
theorem put_none (s : ByteArray) (hs : s.size <= maxLen) (p : Option Addr) (m c : Nat) (y : Int) (d n : Nat) (cap fuse : Int) (down : Bool) (w : World) (hD : DiskAt w d cap none fuse down n (.map [])) (hf : w.frozen? ⟨d, 1, none⟩ = false) :
  Calls Tryz.prog 146 #[.pointer (some ⟨d, 0, none⟩), .string s, .agg #[.slice p m c, .int .i64 y]] w fun e w' => PutOut s (.agg #[.slice p m c, .int .i64 y]) d cap none fuse down n (.map []) w e w' := by
 have hd1 : d < w.heap.size := World.block_lt_of_cell? w ⟨d, 1, none⟩ hD.c1
 have dc := hD.c1
 have hB : Below w.heap.size w ((w.alloc (.cells #[.slice p m c, .int .i64 y] 88)).alloc (.map #[] 0)) := bal (bal (Below.refl w.heap.size w) _) _
 have hsz : (w.setCell ⟨d, 1, none⟩ (.map (some (w.heap.size + 1)))).heap.size = w.heap.size := by simp
 have hm0 : (((w.setCell ⟨d, 1, none⟩ (.map (some (w.heap.size + 1)))).alloc (.cells #[.slice p m c, .int .i64 y] 88)).alloc (.map #[] 0)).ownsMap Tryz.prog 9 fileElem (w.heap.size + 1) 0 (.map []) := by
  have h := World.ownsMap_made ((w.setCell ⟨d, 1, none⟩ (.map (some (w.heap.size + 1)))).alloc (.cells #[.slice p m c, .int .i64 y] 88)) Tryz.prog 9 fileElem
  rw [World.size_alloc, hsz] at h
  exact h
 obtain ⟨w', hrun, hm', hg'⟩ := (hm0.drew).update (t := 83) (e := 88) (Maps.string_keyed Tryz.underlying9) Tryz.underlying83 (by unfold maxLen; omega) (key9 hs) (fileElem_mk p m c y)
 have hca : (w.alloc (.cells #[.slice p m c, .int .i64 y] 88)).cell? ⟨d, 1, none⟩ = some (.map none) := (Below.cell (bal (Below.refl w.heap.size w) _) (p := ⟨d, 1, none⟩) hd1).trans dc
 have hcb : ((w.alloc (.cells #[.slice p m c, .int .i64 y] 88)).alloc (.map #[] 0)).cell? ⟨d, 1, none⟩ = some (.map none) := (hB.cell (p := ⟨d, 1, none⟩) hd1).trans dc
 have hfb : ((w.alloc (.cells #[.slice p m c, .int .i64 y] 88)).alloc (.map #[] 0)).frozen? ⟨d, 1, none⟩ = false := (hB.frozen (p := ⟨d, 1, none⟩) hd1).trans hf
 have HM := hide hm'; have HG := hide hg'; have HD := hide hD; have HB := hide hB
 clear hm' hg' hD hm0 hB
 have hms := fun W => map_none W
 have hmk := fun W => run_makeMap (P := Tryz.prog) 83 W
 go_enter Tryz.func146, Tryz.ntmps146
 go_wp2_with fail
 go_region
 all_goals go_wp2_with fail
 go_end0
 have hg := uh HG
 have hold : ∀ k, k < w.heap.size -> w'.heap[k]? = (w.setCell ⟨d, 1, none⟩ (.map (some (w.heap.size + 1)))).heap[k]? := fun k hk => (hg.block k (by simp; omega) (fun e => by injection e with e; omega)).trans ((Below.heap_alloc _ _ k (by simp; omega)).trans (Below.heap_alloc _ _ k (by rw [hsz]; exact hk)))
 have hcell : ∀ j, w'.cell? ⟨d, j, none⟩ = (w.setCell ⟨d, 1, none⟩ (.map (some (w.heap.size + 1)))).cell? ⟨d, j, none⟩ := fun j => World.cell?_of_block (a := ⟨d, j, none⟩) (hold d hd1)
 have e0 := (uh HD).c0
 have e2 := (uh HD).c2
 have e3 := (uh HD).c3
 refine ⟨⟨_, rfl⟩, w.heap.size + 1, ⟨(hcell 0).trans (by go_simp), (hcell 1).trans (by go_simp), (hcell 2).trans (by go_simp), (hcell 3).trans (by go_simp), .inr ⟨_, rfl, (uh HM).mono (by omega)⟩⟩, .inr ⟨rfl, by omega⟩, hg.os, hg.tape, hg.output, ?_, fun k hk _ h2 => (hold k hk).trans (Below.heap_setCell _ ⟨d, 1, none⟩ _ k (h2 rfl)), fun j => (World.frozen?_of_block (a := ⟨d, j, none⟩) (hold d hd1)).trans (by rw [World.frozen?_setCell])⟩
 have := hg.size
 simp at this
 omega
theorem put_any (s : ByteArray) (hs : s.size <= maxLen) (p : Option Addr) (m c : Nat) (y : Int) (d n : Nat) (hn : n < maxLen) (mo : Option Nat) (cap fuse : Int) (down : Bool) (D : DataW Value) (w : World) (hD : DiskAt w d cap mo fuse down n D) (hdb : ∀ b, mo = some b -> d ≠ b) (hf : w.frozen? ⟨d, 1, none⟩ = false) :
  Calls Tryz.prog 146 #[.pointer (some ⟨d, 0, none⟩), .string s, .agg #[.slice p m c, .int .i64 y]] w fun e w' => PutOut s (.agg #[.slice p m c, .int .i64 y]) d cap mo fuse down n D w e w' := by
 rcases hD.files with ⟨rfl, rfl⟩ | ⟨b, rfl, hm⟩
 ·exact put_none s hs p m c y d n cap fuse down w hD hf
 ·exact put_some s hs p m c y d b n hn cap fuse down D w hD hm (hdb b rfl)
theorem change_down (d : Nat) (r : Int) (dv : Value) (w : World) (c3 : w.cell? ⟨d, 3, none⟩ = some (.bool true)) : Calls Tryz.prog 143 #[.pointer (some ⟨d, 0, none⟩), .int .i64 r, dv] w fun e w' => e = .returned (.int .i64 34) /\ w' = w := by
 go_enter Tryz.func143, Tryz.ntmps143
 go_wp2_with fail
 go_ret
 exact ⟨rfl, rfl⟩
theorem change_refused (d : Nat) (r : Int) (hr : r ≠ 0) (dv : Value) (w : World) (c3 : w.cell? ⟨d, 3, none⟩ = some (.bool false)) : Calls Tryz.prog 143 #[.pointer (some ⟨d, 0, none⟩), .int .i64 r, dv] w fun e w' => e = .returned (.int .i64 r) /\ w' = w := by
 have h1 : (r == 0) = false := by simpa using hr
 have h2 : (r != 0) = true := by simpa using hr
 go_enter Tryz.func143, Tryz.ntmps143
 go_wp2_with fail
 go_ret
 exact ⟨rfl, rfl⟩
theorem change_fails (d : Nat) (dv : Value) (w : World) (c2 : w.cell? ⟨d, 2, none⟩ = some (.int .i64 0)) (c3 : w.cell? ⟨d, 3, none⟩ = some (.bool false)) (f2 : w.frozen? ⟨d, 2, none⟩ = false) (f3 : w.frozen? ⟨d, 3, none⟩ = false) :
  Calls Tryz.prog 143 #[.pointer (some ⟨d, 0, none⟩), .int .i64 0, dv] w fun e w' => e = .returned (.int .i64 34) /\ w' = (w.setCell ⟨d, 2, none⟩ (.int .i64 (-1))).setCell ⟨d, 3, none⟩ (.bool true) := by
 go_enter Tryz.func143, Tryz.ntmps143
 go_wp2_with fail
 go_ret
 exact ⟨rfl, rfl⟩
theorem change_does (d : Nat) (fuse : Int) (hf0 : fuse ≠ 0) (hf1 : fuse <= 9223372036854775807) (g : Nat) (lb : Array Value) (eg : ∀ args w, (callFunc g args).run Tryz.prog w = .ok (.enter g args) w) (w w1 : World) (R : World -> Prop) (c2 : w.cell? ⟨d, 2, none⟩ = some (.int .i64 fuse)) (c3 : w.cell? ⟨d, 3, none⟩ = some (.bool false)) (f2 : w.frozen? ⟨d, 2, none⟩ = false)
  (hw1 : w1 = if 0 < fuse then w.setCell ⟨d, 2, none⟩ (.int .i64 (fuse - 1)) else w) (hdo : Calls Tryz.prog g lb w1 fun e w' => (∃ v, e = .returned v) /\ R w') :
  Calls Tryz.prog 143 #[.pointer (some ⟨d, 0, none⟩), .int .i64 0, .func (.func g) #[] lb] w fun e w' => e = .returned (.int .i64 0) /\ R w' := by
 have h1 : (fuse == 0) = false := by simpa using hf0
 have HDO := hide hdo
 clear hdo
 by_cases hp : 0 < fuse
 ·rw [if_pos hp] at hw1
  have e1 : wrap64 (fuse - 1) = fuse - 1 := by unfold wrap64; omega
  rw [hw1] at HDO
  go_enter Tryz.func143, Tryz.ntmps143
  go_wp2_with fail
  refine (uh HDO).mono ?_
  rintro e w2 ⟨⟨v, rfl⟩, hR⟩
  have HR := hide hR
  clear hR
  go_wp2_with fail
  go_ret
  exact ⟨rfl, uh HR⟩
 ·rw [if_neg hp] at hw1
  rw [hw1] at HDO
  go_enter Tryz.func143, Tryz.ntmps143
  go_wp2_with fail
  refine (uh HDO).mono ?_
  rintro e w2 ⟨⟨v, rfl⟩, hR⟩
  have HR := hide hR
  clear hR
  go_wp2_with fail
  go_ret
  exact ⟨rfl, uh HR⟩
theorem DiskAt.lt {W : World} {d n : Nat} {cap fuse : Int} {mo : Option Nat} {down : Bool} {D : DataW Value} (h : DiskAt W d cap mo fuse down n D) : d < W.heap.size := World.block_lt_of_cell? W ⟨d, 0, none⟩ h.c0
theorem DiskAt.below {W W' : World} {d n : Nat} {cap fuse : Int} {mo : Option Nat} {down : Bool} {D : DataW Value} (h : DiskAt W d cap mo fuse down n D) (hb : Below W.heap.size W W') : DiskAt W' d cap mo fuse down n D :=
 ⟨keep1 hb h.lt h.c0, keep1 hb h.lt h.c1, keep1 hb h.lt h.c2, keep1 hb h.lt h.c3, h.files.imp id (fun ⟨b, h1, h2⟩ => ⟨b, h1, h2.kept (grown_of_below hb) (by simp)⟩)⟩
theorem DiskAt.fuse {W : World} {d n : Nat} {cap fuse : Int} {mo : Option Nat} {down : Bool} {D : DataW Value} (h : DiskAt W d cap mo fuse down n D) (hdb : ∀ b, mo = some b -> d ≠ b) (x : Int) : DiskAt (W.setCell ⟨d, 2, none⟩ (.int .i64 x)) d cap mo x down n D := by
 have e0 := h.c0
 have e1 := h.c1
 have e2 := h.c2
 have e3 := h.c3
 refine ⟨by go_simp, by go_simp, by go_simp, by go_simp, h.files.imp id ?_⟩
 rintro ⟨b, rfl, hm⟩
 exact ⟨b, rfl, hm.kept (Lib.grownBy_setCell W d 2 _) (fun e => hdb b rfl (Option.some.inj e).symm)⟩
theorem DiskAt.downs {W : World} {d n : Nat} {cap fuse : Int} {mo : Option Nat} {down : Bool} {D : DataW Value} (h : DiskAt W d cap mo fuse down n D) (hdb : ∀ b, mo = some b -> d ≠ b) (x : Bool) : DiskAt (W.setCell ⟨d, 3, none⟩ (.bool x)) d cap mo fuse x n D := by
 have e0 := h.c0
 have e1 := h.c1
 have e2 := h.c2
 have e3 := h.c3
 refine ⟨by go_simp, by go_simp, by go_simp, by go_simp, h.files.imp id ?_⟩
 rintro ⟨b, rfl, hm⟩
 exact ⟨b, rfl, hm.kept (Lib.grownBy_setCell W d 3 _) (fun e => hdb b rfl (Option.some.inj e).symm)⟩
inductive All2 {α β : Type} (R : α -> β -> Prop) : List α -> List β -> Prop
 | nil : All2 R [] []
 | cons {a : α} {b : β} {l : List α} {m : List β} : R a b -> All2 R l m -> All2 R (a :: l) (b :: m)
structure Fl where
 bs : List UInt8
 sy : Nat
abbrev Fs := List (List UInt8 × Fl)
def insF (x : List UInt8 × Fl) : Fs -> Fs
 | [] => [x]
 | y :: r => if (Lit.string x.1).before (.string y.1) then x :: y :: r else y :: insF x r
def delF (k : List UInt8) (A : Fs) : Fs := A.filter fun p => !(p.1 == k)
def putF (k : List UInt8) (x : Fl) (A : Fs) : Fs := insF (k, x) (delF k A)
def getF (k : List UInt8) (A : Fs) : Option Fl := (A.find? fun p => p.1 == k).map (·.2)
def blk : Lit × DataW Value -> Option Nat
 | (_, .held (.agg xs)) => match xs.toList with
  | v :: _ => v.ownBlock
  | _ => none
 | _ => none
def FileAt (W : World) (e : Lit × DataW Value) (a : List UInt8 × Fl) : Prop :=
 e.1 = .string a.1 /\ ∃ p c, e.2 = .held (.agg #[.slice p a.2.bs.length c, .int .i64 (a.2.sy : Int)]) /\ W.ownsRow 0 5 1 (.slice p a.2.bs.length c) a.2.bs.length (bcs a.2.bs)
theorem FileAt.far {W W' : World} {e : Lit × DataW Value} {a : List UInt8 × Fl} (h : FileAt W e a) (hq : ∀ q, blk e = some q -> W'.heap[q]? = W.heap[q]?) : FileAt W' e a := by
 obtain ⟨h1, p, c, h2, h3⟩ := h
 refine ⟨h1, p, c, h2, row_far h3 (fun q hq' => hq q ?_)⟩
 obtain ⟨e1, e2⟩ := e
 simp only at h2
 subst h2
 exact hq'
theorem FileAt.lt {W : World} {e : Lit × DataW Value} {a : List UInt8 × Fl} (h : FileAt W e a) {q : Nat} (hq : blk e = some q) : q < W.heap.size := by
 obtain ⟨h1, p, c, h2, h3⟩ := h
 obtain ⟨e1, e2⟩ := e
 simp only at h2
 subst h2
 exact (h3.lt q hq).2
structure FilesAt (W : World) (es : List (Lit × DataW Value)) (A : Fs) : Prop where
 all : All2 (FileAt W) es A
 apart : es.Pairwise fun x y => ∀ q, blk x = some q -> blk y ≠ some q
theorem FilesAt.far {W W' : World} {es : List (Lit × DataW Value)} {A : Fs} (h : FilesAt W es A) (hq : ∀ e ∈ es, ∀ q, blk e = some q -> W'.heap[q]? = W.heap[q]?) : FilesAt W' es A := by
 refine ⟨?_, h.apart⟩
 have := h.all
 clear h
 induction this with
 | nil => exact .nil
 | cons h1 _ ih => exact .cons (h1.far (hq _ (by simp))) (ih (fun e he => hq e (by simp [he])))
theorem string_same (a k : List UInt8) : (Lit.string a).sameKey (.string k) = (a == k) := rfl
theorem all_mem {W : World} {es : List (Lit × DataW Value)} {A : Fs} (h : All2 (FileAt W) es A) : ∀ e ∈ es, ∃ a ∈ A, FileAt W e a := by
 induction h with
 | nil => intro e he; cases he
 | cons h1 _ ih =>
  intro e he
  rcases List.mem_cons.1 he with rfl | he
  ·exact ⟨_, by simp, h1⟩
  ·obtain ⟨a, ha, h2⟩ := ih e he
   exact ⟨a, by simp [ha], h2⟩
theorem has_tie {W : World} {es : List (Lit × DataW Value)} {A : Fs} (h : All2 (FileAt W) es A) (k : List UInt8) : Maps.has (.map es) (.string k) = (getF k A).isSome := by
 rw [Maps.has_eq]
 induction h with
 | nil => rfl
 | cons h1 _ ih =>
  rename_i e a es A _
  rw [List.any_cons, ih, h1.1, string_same]
  unfold getF
  rw [List.find?_cons]
  cases hk : (a.1 == k) <;> simp
theorem atKey_cons (e : Lit × DataW Value) (es : List (Lit × DataW Value)) (k : Lit) (z : DataW Value) : (DataW.map (e :: es)).atKey k z = if e.1.sameKey k = true then e.2 else (DataW.map es).atKey k z := by
 unfold DataW.atKey
 simp only [List.find?_cons]
 cases e.1.sameKey k <;> simp
theorem at_tie {W : World} {es : List (Lit × DataW Value)} {A : Fs} (h : All2 (FileAt W) es A) {k : List UInt8} {x : Fl} (hg : getF k A = some x) (z : DataW Value) : ∃ e ∈ es, (DataW.map es).atKey (.string k) z = e.2 /\ FileAt W e (k, x) := by
 induction h with
 | nil => cases hg
 | cons h1 hr ih =>
  rename_i e a es A
  unfold getF at hg
  rw [List.find?_cons] at hg
  rw [atKey_cons, h1.1, string_same]
  cases hk : (a.1 == k) with
  | true =>
   rw [hk] at hg
   simp only [Option.map_some, Option.some.injEq] at hg
   have hak : a.1 = k := by simpa using hk
   refine ⟨e, by simp, by simp, ?_⟩
   obtain ⟨a1, a2⟩ := a
   simp only at hg hak
   subst hg hak
   exact h1
  | false =>
   rw [hk] at hg
   obtain ⟨e', he', h2, h3⟩ := ih hg
   exact ⟨e', by simp [he'], by simpa using h2, h3⟩
theorem ins_tie {W : World} {es : List (Lit × DataW Value)} {A : Fs} (h : All2 (FileAt W) es A) {e : Lit × DataW Value} {a : List UInt8 × Fl} (he : FileAt W e a) : All2 (FileAt W) (DataW.insert e es) (insF a A) := by
 induction h with
 | nil => exact .cons he .nil
 | cons h1 hr ih =>
  unfold DataW.insert insF
  rw [he.1, h1.1]
  split
  ·exact .cons he (.cons h1 hr)
  ·exact .cons h1 ih
theorem del_tie {W : World} {es : List (Lit × DataW Value)} {A : Fs} (h : All2 (FileAt W) es A) (k : List UInt8) : All2 (FileAt W) (es.filter fun p => !p.1.sameKey (.string k)) (delF k A) := by
 unfold delF
 induction h with
 | nil => exact .nil
 | cons h1 hr ih =>
  rename_i e a es A
  rw [List.filter_cons, List.filter_cons, h1.1, string_same]
  cases hk : (a.1 == k)
  ·exact .cons h1 ih
  ·exact ih
theorem mem_insert {x : Lit × DataW Value} : ∀ {l : List (Lit × DataW Value)} {y : Lit × DataW Value}, y ∈ DataW.insert x l -> y = x \/ y ∈ l
 | [], y, h => by simp [DataW.insert] at h; exact .inl h
 | z :: r, y, h => by
  unfold DataW.insert at h
  split at h
  ·rcases List.mem_cons.1 h with h | h
   ·exact .inl h
   ·exact .inr h
  ·rcases List.mem_cons.1 h with h | h
   ·exact .inr (by simp [h])
   ·rcases mem_insert h with h | h
    ·exact .inl h
    ·exact .inr (by simp [h])
theorem apart_insert {x : Lit × DataW Value} : ∀ {l : List (Lit × DataW Value)}, l.Pairwise (fun x y => ∀ q, blk x = some q -> blk y ≠ some q) -> (∀ y ∈ l, ∀ q, blk y = some q -> blk x ≠ some q) -> (DataW.insert x l).Pairwise fun x y => ∀ q, blk x = some q -> blk y ≠ some q
 | [], _, _ => by simp [DataW.insert]
 | z :: r, h, hx => by
  unfold DataW.insert
  rw [List.pairwise_cons] at h
  split
  ·refine List.pairwise_cons.2 ⟨fun y hy q h1 h2 => hx y hy q h2 h1, List.pairwise_cons.2 h⟩
  ·refine List.pairwise_cons.2 ⟨fun y hy q h1 => ?_, apart_insert h.2 (fun y hy => hx y (by simp [hy]))⟩
   rcases mem_insert hy with rfl | hy
   ·exact hx z (by simp) q h1
   ·exact h.1 y hy q h1
theorem FilesAt.put {W : World} {es : List (Lit × DataW Value)} {A : Fs} (h : FilesAt W es A) {k : List UInt8} {x : Fl} {v : Value} (hv : FileAt W (.string k, .held v) (k, x)) (ha : ∀ e ∈ es, e.1 ≠ .string k -> ∀ q, blk e = some q -> blk (.string k, .held v) ≠ some q) :
  FilesAt W (DataW.insert (.string k, .held v) (es.filter fun p => !p.1.sameKey (.string k))) (putF k x A) := by
 refine ⟨ins_tie (del_tie h.all k) hv, apart_insert (h.apart.filter _) (fun y hy q hq => ?_)⟩
 obtain ⟨h1, h2⟩ := List.mem_filter.1 hy
 refine ha y h1 (fun e => ?_) q hq
 rw [e, string_same] at h2
 simp at h2
theorem FilesAt.del {W : World} {es : List (Lit × DataW Value)} {A : Fs} (h : FilesAt W es A) (k : List UInt8) : FilesAt W (es.filter fun p => !p.1.sameKey (.string k)) (delF k A) :=
 ⟨del_tie h.all k, h.apart.filter _⟩
structure Dk where
 cap : Int
 A : Fs
 fuse : Int
 down : Bool
structure DiskIs (W : World) (d N : Nat) (K : Dk) (S : Nat -> Prop) (mo : Option Nat) (n : Nat) (es : List (Lit × DataW Value)) : Prop where
 at' : DiskAt W d K.cap mo K.fuse K.down n (.map es)
 fs : FilesAt W es K.A
 nle : n <= N
 mb : ∀ b, mo = some b -> d ≠ b /\ S b /\ ∀ e ∈ es, blk e ≠ some b
 db : ∀ e ∈ es, blk e ≠ some d
 eb : ∀ e ∈ es, ∀ q, blk e = some q -> S q
 fz : ∀ j, W.frozen? ⟨d, j, none⟩ = false
 sd : S d
 sl : ∀ q, S q -> q < W.heap.size
def DiskOK (W : World) (d N : Nat) (K : Dk) (S : Nat -> Prop) : Prop := ∃ mo n es, DiskIs W d N K S mo n es
structure Sep (w w' : World) (S S' : Nat -> Prop) : Prop where
 os : w'.os = w.os
 tape : w'.tape = w.tape
 output : w'.output = w.output
 size : w.heap.size <= w'.heap.size
 block : ∀ q, q < w.heap.size -> ¬ S q -> w'.heap[q]? = w.heap[q]?
 new : ∀ q, S' q -> S q \/ w.heap.size <= q
theorem Sep.refl (w : World) (S : Nat -> Prop) : Sep w w S S := ⟨rfl, rfl, rfl, Nat.le_refl _, fun _ _ _ => rfl, fun _ h => .inl h⟩
theorem Sep.trans {a b c : World} {S S' S2 : Nat -> Prop} (h : Sep a b S S') (k : Sep b c S' S2) : Sep a c S S2 :=
 ⟨k.os.trans h.os, k.tape.trans h.tape, k.output.trans h.output, Nat.le_trans h.size k.size, fun q hq hS => (k.block q (Nat.lt_of_lt_of_le hq h.size) (fun h' => by rcases h.new q h' with h1 | h1; exact hS h1; omega)).trans (h.block q hq hS), fun q hq => by
  rcases k.new q hq with h1 | h1
  ·exact h.new q h1
  ·exact .inr (Nat.le_trans h.size h1)⟩
theorem Sep.of_below {w w' : World} (S : Nat -> Prop) (h : Below w.heap.size w w') : Sep w w' S S := ⟨h.os, h.tape, h.output, h.size, fun q hq _ => h.block q hq, fun _ h => .inl h⟩
theorem DiskIs.mono {W : World} {d N n : Nat} {K : Dk} {S S' : Nat -> Prop} {mo : Option Nat} {es : List (Lit × DataW Value)} (h : DiskIs W d N K S mo n es) (hS : ∀ q, S q -> S' q) (hl : ∀ q, S' q -> q < W.heap.size) : DiskIs W d N K S' mo n es :=
 ⟨h.at', h.fs, h.nle, fun b hb => ⟨(h.mb b hb).1, hS _ (h.mb b hb).2.1, (h.mb b hb).2.2⟩, h.db, fun e he q hq => hS _ (h.eb e he q hq), h.fz, hS _ h.sd, hl⟩
theorem DiskIs.lt {W : World} {d N n : Nat} {K : Dk} {S : Nat -> Prop} {mo : Option Nat} {es : List (Lit × DataW Value)} (h : DiskIs W d N K S mo n es) {e : Lit × DataW Value} (he : e ∈ es) {q : Nat} (hq : blk e = some q) : q < W.heap.size := by
 obtain ⟨a, _, ha⟩ := all_mem h.fs.all e he
 exact ha.lt hq
theorem DiskIs.below {W W' : World} {d N n : Nat} {K : Dk} {S : Nat -> Prop} {mo : Option Nat} {es : List (Lit × DataW Value)} (h : DiskIs W d N K S mo n es) (hb : Below W.heap.size W W') : DiskIs W' d N K S mo n es :=
 ⟨h.at'.below hb, h.fs.far (fun e he q hq => hb.block q (h.lt he hq)), h.nle, h.mb, h.db, h.eb, fun j => keepF hb h.at'.lt (h.fz j), h.sd, fun q hq => Nat.lt_of_lt_of_le (h.sl q hq) hb.size⟩
theorem DiskOK.below {W W' : World} {d N : Nat} {K : Dk} {S : Nat -> Prop} (h : DiskOK W d N K S) (hb : Below W.heap.size W W') : DiskOK W' d N K S := by
 obtain ⟨mo, n, es, h⟩ := h
 exact ⟨mo, n, es, h.below hb⟩
theorem DiskOK.mono {W : World} {d N N' : Nat} {K : Dk} {S : Nat -> Prop} (h : DiskOK W d N K S) (hN : N <= N') : DiskOK W d N' K S := by
 obtain ⟨mo, n, es, h'⟩ := h
 exact ⟨mo, n, es, ⟨h'.at', h'.fs, Nat.le_trans h'.nle hN, h'.mb, h'.db, h'.eb, h'.fz, h'.sd, h'.sl⟩⟩
theorem DiskIs.fuse {W : World} {d N n : Nat} {K : Dk} {S : Nat -> Prop} {mo : Option Nat} {es : List (Lit × DataW Value)} (h : DiskIs W d N K S mo n es) (x : Int) : DiskIs (W.setCell ⟨d, 2, none⟩ (.int .i64 x)) d N { K with fuse := x } S mo n es :=
 ⟨h.at'.fuse (fun b hb => (h.mb b hb).1) x, h.fs.far (fun e he q hq => Below.heap_setCell _ _ _ _ (fun e' => h.db e he (by rw [hq, e']))), h.nle, h.mb, h.db, h.eb, fun j => by rw [World.frozen?_setCell]; exact h.fz j, h.sd, fun q hq => by simpa using h.sl q hq⟩
theorem DiskIs.downs {W : World} {d N n : Nat} {K : Dk} {S : Nat -> Prop} {mo : Option Nat} {es : List (Lit × DataW Value)} (h : DiskIs W d N K S mo n es) (x : Bool) : DiskIs (W.setCell ⟨d, 3, none⟩ (.bool x)) d N { K with down := x } S mo n es :=
 ⟨h.at'.downs (fun b hb => (h.mb b hb).1) x, h.fs.far (fun e he q hq => Below.heap_setCell _ _ _ _ (fun e' => h.db e he (by rw [hq, e']))), h.nle, h.mb, h.db, h.eb, fun j => by rw [World.frozen?_setCell]; exact h.fz j, h.sd, fun q hq => by simpa using h.sl q hq⟩
theorem Sep.cell (w : World) (S : Nat -> Prop) (d j : Nat) (v : Value) (hd : S d) : Sep w (w.setCell ⟨d, j, none⟩ v) S S :=
 ⟨rfl, rfl, rfl, by simp, fun q _ hq => Below.heap_setCell _ ⟨d, j, none⟩ _ q (fun e => hq (by rw [e]; exact hd)), fun _ h => .inl h⟩
theorem put_is {w : World} {d N n : Nat} {K : Dk} {S : Nat -> Prop} {mo : Option Nat} {es : List (Lit × DataW Value)} (h : DiskIs w d N K S mo n es) (hN : N < 1000000) (s : ByteArray) (hs : s.size <= maxLen) (p : Option Addr) (c : Nat) (x : Fl) (hrow : w.ownsRow 0 5 1 (.slice p x.bs.length c) x.bs.length (bcs x.bs))
  (hb : ∀ q, (Value.slice p x.bs.length c).ownBlock = some q -> S q /\ q ≠ d /\ mo ≠ some q /\ ∀ e ∈ es, e.1 ≠ .string s.data.toList -> blk e ≠ some q) :
  Calls Tryz.prog 146 #[.pointer (some ⟨d, 0, none⟩), .string s, .agg #[.slice p x.bs.length c, .int .i64 (x.sy : Int)]] w fun e w' => (∃ r, e = .returned r) /\ ∃ S', DiskOK w' d (N + 1) { K with A := putF s.data.toList x K.A } S' /\ Sep w w' S S' := by
 have hnm : n < maxLen := by have := h.nle; unfold maxLen; omega
 refine (put_any s hs p x.bs.length c (x.sy : Int) d n hnm mo K.cap K.fuse K.down (.map es) w h.at' (fun b hb => (h.mb b hb).1) (h.fz 1)).mono ?_
 rintro e w' ⟨hr, b', hD, hmo, os, tp, ou, sz, hblk, hfz⟩
 have hdl := h.at'.lt
 have hkeep : ∀ q, q < w.heap.size -> q ≠ d -> mo ≠ some q -> w'.heap[q]? = w.heap[q]? := fun q hq h1 h2 => hblk q hq (fun e => h2 e.symm) (fun _ => h1)
 have hrow' : w'.ownsRow 0 5 1 (.slice p x.bs.length c) x.bs.length (bcs x.bs) := row_far hrow (fun q hq => hkeep q (hrow.lt q hq).2 (hb q hq).2.1 (hb q hq).2.2.1)
 have hes : ∀ y ∈ DataW.insert (.string s.data.toList, .held (.agg #[.slice p x.bs.length c, .int .i64 (x.sy : Int)])) (es.filter fun p => !p.1.sameKey (.string s.data.toList)), ∀ q, blk y = some q -> S q /\ q ≠ d /\ mo ≠ some q /\ q < w.heap.size := by
  intro y hy q hq
  rcases mem_insert hy with rfl | hy
  ·have h1 := hb q hq
   exact ⟨h1.1, h1.2.1, h1.2.2.1, (hrow.lt q hq).2⟩
  ·have hy' := (List.mem_filter.1 hy).1
   refine ⟨h.eb y hy' q hq, fun e => h.db y hy' (by rw [hq, e]), fun e => (h.mb q e).2.2 y hy' hq, h.lt hy' hq⟩
 have hbl : b' < w'.heap.size := by
  rcases hD.files with ⟨h1, _⟩ | ⟨b, h1, h2⟩
  ·cases h1
  ·injection h1 with h1
   subst h1
   exact h2.lt
 refine ⟨hr, fun q => S q \/ q = b', ⟨some b', n + 1, _, ⟨hD, ?_, by have := h.nle; omega, ?_, fun e he hq => (hes e he d hq).2.1 rfl, fun e he q hq => .inl (hes e he q hq).1, fun j => ?_, .inl h.sd, fun q hq => hq.elim (fun h' => Nat.lt_of_lt_of_le (h.sl q h') sz) (fun e => by rw [e]; exact hbl)⟩⟩, ⟨os, tp, ou, sz, fun q hq hS => hkeep q hq (fun e => hS (by rw [e]; exact h.sd)) (fun e => hS (h.mb q e).2.1), fun q hq => hq.elim .inl (fun e => ?_)⟩⟩
 ·refine FilesAt.put (h.fs.far (fun e he q hq => hkeep q (h.lt he hq) (fun e' => h.db e he (by rw [hq, e'])) (fun e' => (h.mb q e').2.2 e he hq))) ⟨rfl, p, c, rfl, hrow'⟩ (fun e he hne q hq hq' => (hb q hq').2.2.2 e he hne hq)
 ·intro b hb'
  injection hb' with hb'
  subst hb'
  rcases hmo with hmo | ⟨hmo, hle⟩
  ·refine ⟨(h.mb b' hmo).1, .inl (h.mb b' hmo).2.1, fun e he hq => (hes e he b' hq).2.2.1 hmo⟩
  ·exact ⟨by omega, .inr rfl, fun e he hq => by have := (hes e he b' hq).2.2.2; omega⟩
 ·rw [hfz j]
  exact h.fz j
 ·subst e
  rcases hmo with hmo | ⟨_, hle⟩
  ·exact .inl (h.mb q hmo).2.1
  ·exact .inr hle
def chgK (K : Dk) (er : Int) (A' : Fs) : Dk × Int :=
 if K.down = true then (K, 34) else if er ≠ 0 then (K, er) else if K.fuse = 0 then ({ K with fuse := -1, down := true }, 34) else ({ K with fuse := if 0 < K.fuse then K.fuse - 1 else K.fuse, A := A' }, 0)
theorem change_ok {w : World} {d N n : Nat} {K : Dk} {S : Nat -> Prop} {mo : Option Nat} {es : List (Lit × DataW Value)} (h : DiskIs w d N K S mo n es) (hf1 : K.fuse <= 9223372036854775807) (er : Int) (A' : Fs) (g : Nat) (lb : Array Value) (eg : ∀ args w, (callFunc g args).run Tryz.prog w = .ok (.enter g args) w)
  (hdo : K.down = false -> er = 0 -> K.fuse ≠ 0 -> ∀ (w1 : World) (x : Int), (w1 = w \/ w1 = w.setCell ⟨d, 2, none⟩ (.int .i64 x)) -> DiskIs w1 d N { K with fuse := x } S mo n es -> Calls Tryz.prog g lb w1 fun e w' => (∃ v, e = .returned v) /\ ∃ S', DiskOK w' d (N + 1) { K with fuse := x, A := A' } S' /\ Sep w1 w' S S') :
  Calls Tryz.prog 143 #[.pointer (some ⟨d, 0, none⟩), .int .i64 er, .func (.func g) #[] lb] w fun e w' => e = .returned (.int .i64 (chgK K er A').2) /\ ∃ S', DiskOK w' d (N + 1) (chgK K er A').1 S' /\ Sep w w' S S' := by
 have hok : DiskOK w d (N + 1) K S := DiskOK.mono ⟨mo, n, es, h⟩ (by omega)
 cases hdn : K.down with
 | true =>
  have hc : chgK K er A' = (K, 34) := by unfold chgK; rw [if_pos hdn]
  rw [hc]
  have c3 := h.at'.c3
  rw [hdn] at c3
  refine (change_down d er _ w c3).mono ?_
  rintro e w' ⟨rfl, rfl⟩
  exact ⟨rfl, S, hok, Sep.refl _ _⟩
 | false =>
  have c3 := h.at'.c3
  rw [hdn] at c3
  by_cases he : er = 0
  ·subst he
   by_cases h0 : K.fuse = 0
   ·have hc : chgK K 0 A' = ({ K with fuse := -1, down := true }, 34) := by unfold chgK; rw [if_neg (by rw [hdn]; simp), if_neg (by simp), if_pos h0]
    rw [hc]
    have c2 := h.at'.c2
    rw [h0] at c2
    refine (change_fails d _ w c2 c3 (h.fz 2) (h.fz 3)).mono ?_
    rintro e w' ⟨rfl, rfl⟩
    exact ⟨rfl, S, DiskOK.mono ⟨mo, n, es, (h.fuse (-1)).downs true⟩ (by omega), (Sep.cell w S d 2 _ h.sd).trans (Sep.cell _ S d 3 _ h.sd)⟩
   ·obtain ⟨x, hx⟩ : ∃ x, x = if 0 < K.fuse then K.fuse - 1 else K.fuse := ⟨_, rfl⟩
    have hc : chgK K 0 A' = ({ K with fuse := x, A := A' }, 0) := by unfold chgK; rw [if_neg (by rw [hdn]; simp), if_neg (by simp), if_neg h0, hx]
    rw [hc]
    obtain ⟨w1, hw1⟩ : ∃ w1, w1 = if 0 < K.fuse then w.setCell ⟨d, 2, none⟩ (.int .i64 (K.fuse - 1)) else w := ⟨_, rfl⟩
    have hor : w1 = w \/ w1 = w.setCell ⟨d, 2, none⟩ (.int .i64 x) := by
     rw [hw1, hx]
     by_cases hp : 0 < K.fuse
     ·rw [if_pos hp, if_pos hp]; exact .inr rfl
     ·rw [if_neg hp]; exact .inl rfl
    have hD1 : DiskIs w1 d N { K with fuse := x } S mo n es := by
     rw [hw1, hx]
     by_cases hp : 0 < K.fuse
     ·rw [if_pos hp, if_pos hp]; exact h.fuse _
     ·rw [if_neg hp, if_neg hp]; exact h
    have hs1 : Sep w w1 S S := by
     rcases hor with e | e
     ·rw [e]; exact Sep.refl _ _
     ·rw [e]; exact Sep.cell w S d 2 _ h.sd
    refine (change_does d K.fuse h0 hf1 g lb eg w w1 (fun w' => ∃ S', DiskOK w' d (N + 1) { K with fuse := x, A := A' } S' /\ Sep w w' S S') h.at'.c2 c3 (h.fz 2) hw1 ((hdo hdn rfl h0 w1 x hor hD1).mono ?_)).mono ?_
    ·rintro e w' ⟨hr, S', h1, h2⟩
     exact ⟨hr, S', h1, hs1.trans h2⟩
    ·rintro e w' ⟨rfl, h1⟩
     exact ⟨rfl, h1⟩
  ·have hc : chgK K er A' = (K, er) := by unfold chgK; rw [if_neg (by rw [hdn]; simp), if_pos he]
   rw [hc]
   refine (change_refused d er he _ w c3).mono ?_
   rintro e w' ⟨rfl, rfl⟩
   exact ⟨rfl, S, hok, Sep.refl _ _⟩
end Go.Proofs.YtpeohbkigkfcgabGreatDoor
