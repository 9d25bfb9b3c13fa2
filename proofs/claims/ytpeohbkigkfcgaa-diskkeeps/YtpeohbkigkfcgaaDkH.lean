/- disk: Append (23). -/
import Derived.Test.YtpeohbkigkfcgaaDkG
namespace Go.Proofs.Ytpeohbkigkfcgaa
open Go Go.Shelf Go.ChangeShapes Go.WideShapes Go.ChangeAt Go.RowKit
set_option linter.unusedVariables false
theorem Hit.below {w w' : World} {s : ByteArray} {K : Dk} {es : List (Lit × DataW Value)} {p : Option Addr} {m c : Nat} {y : Int} {x : Fl} (h : Hit w s K es p m c y x) (hb : Below w.heap.size w w') : Hit w' s K es p m c y x :=
  ⟨h.get, h.len, h.syn, h.mem, own_below h.row hb⟩
set_option maxRecDepth 100000 in
set_option maxHeartbeats 1500000 in
theorem append_do (s : ByteArray) (hs : s.size ≤ maxLen) (p : Option Addr) (c : Nat) (B0 B1 B2 B3 : Nat) {w : World} {d N n : Nat} {K : Dk} {S : Nat → Prop} {mo : Option Nat} {es : List (Lit × DataW Value)} (h : DiskIs w d N K S mo n es) (hN : N < 1000000) (x : Fl) (hh : Hit w s K es p x.bs.length c (x.sy : Int) x) (u : Value) (b2 : List UInt8) (hu : BytesAt w u b2) (hl : x.bs.length + b2.length ≤ 140737488351232)
    (k0 : w.cell? ⟨B0, 0, none⟩ = some (.pointer (some ⟨d, 0, none⟩))) (k1 : w.cell? ⟨B1, 0, none⟩ = some (.string s)) (k2 : w.cell? ⟨B2, 0, none⟩ = some (.slice p x.bs.length c)) (k3 : w.cell? ⟨B2, 1, none⟩ = some (.int .i64 (x.sy : Int))) (k4 : w.cell? ⟨B3, 0, none⟩ = some u)
    (n0 : ¬ S B0) (n1 : ¬ S B1) (n2 : ¬ S B2) (n3 : ¬ S B3) :
    Calls Try.prog 44 #[.pointer (some ⟨B0, 0, none⟩), .pointer (some ⟨B1, 0, none⟩), .pointer (some ⟨B2, 0, none⟩), .pointer (some ⟨B3, 0, none⟩)] w fun e w' => (∃ v, e = .returned v) ∧ ∃ S', DiskOK w' d (N + 1) { K with A := putF s.data.toList ⟨x.bs ++ b2, x.sy⟩ K.A } S' ∧ Sep w w' S S' := by
  have B1' : Below w.heap.size w w.drew := below_drewN (Below.refl _ w) 1
  have HD := hide (h.below B1')
  have HH := hide (hh.below B1')
  have HU := hide (hu.far (W' := w.drew) (fun _ _ => rfl))
  have hlt : ∀ {b j : Nat} {v : Value}, w.cell? ⟨b, j, none⟩ = some v → b < w.heap.size := fun hv => World.block_lt_of_cell? w ⟨_, _, none⟩ hv
  obtain ⟨b3, hb3⟩ : ∃ b3, b3 = x.bs ++ b2 := ⟨_, rfl⟩
  rw [← hb3]
  have HB3 := hide hb3
  clear hb3
  have HA : Hid (∀ p' c' w5, w5.ownsRow 0 5 1 (.slice p' b3.length c') b3.length (bcs b3) → w5.ownsRow 0 5 1 (.slice p x.bs.length c) x.bs.length (bcs x.bs) →
      (((Value.slice p' b3.length c').ownBlock = (Value.slice p x.bs.length c).ownBlock ∧ w.drew.grownBy w5 (Value.slice p x.bs.length c).ownBlock) ∨ ((Value.slice p' b3.length c').ownBlock = some w.drew.heap.size ∧ w.drew.grownBy w5 none)) →
      (w5.cell? ⟨B0, 0, none⟩ = some (.pointer (some ⟨d, 0, none⟩)) ∧ w5.cell? ⟨B1, 0, none⟩ = some (.string s) ∧ w5.cell? ⟨B2, 0, none⟩ = some (.slice p x.bs.length c) ∧ w5.cell? ⟨B2, 1, none⟩ = some (.int .i64 (x.sy : Int)) ∧ w5.cell? ⟨B3, 0, none⟩ = some u) ∧
      Hid (Calls Try.prog 37 #[.pointer (some ⟨d, 0, none⟩), .string s, .agg #[.slice p' b3.length c', .int .i64 (x.sy : Int)]] w5 fun e w' => (∃ v, e = .returned v) ∧ (∃ S', DiskOK w' d (N + 1) { K with A := putF s.data.toList ⟨b3, x.sy⟩ K.A } S' ∧ Sep w w' S S') ∧ w'.cell? ⟨B0, 0, none⟩ = some (.pointer (some ⟨d, 0, none⟩)) ∧ w'.cell? ⟨B1, 0, none⟩ = some (.string s) ∧ w'.cell? ⟨B2, 0, none⟩ = some (.slice p x.bs.length c) ∧ w'.cell? ⟨B2, 1, none⟩ = some (.int .i64 (x.sy : Int)) ∧ w'.cell? ⟨B3, 0, none⟩ = some u)) := by
    intro p' c' w5 r1 r2 hg
    obtain ⟨g1, g2, g3⟩ := (unhide HD).grows (unhide HH) _ r1 r2 hg
    have hk : ∀ {b j : Nat} {v : Value}, w.cell? ⟨b, j, none⟩ = some v → ¬ S b → w5.cell? ⟨b, j, none⟩ = some v := fun {b j v} hv hn => (World.cell?_of_block (a := ⟨b, j, none⟩) (g2.block b (hlt hv) hn)).trans hv
    refine ⟨⟨hk k0 n0, hk k1 n1, hk k2 n2, hk k3 n2, hk k4 n3⟩, ?_⟩
    refine (put_is g1 hN s hs p' c' ⟨b3, x.sy⟩ r1 g3).mono ?_
    rintro e w' ⟨hr, S', h1, h2⟩
    have g5 := ((Sep.of_below S B1').trans g2).trans h2
    have hk : ∀ {b j : Nat} {v : Value}, w.cell? ⟨b, j, none⟩ = some v → ¬ S b → w'.cell? ⟨b, j, none⟩ = some v := fun {b j v} hv hn => (World.cell?_of_block (a := ⟨b, j, none⟩) (g5.block b (hlt hv) hn)).trans hv
    exact ⟨hr, ⟨S', h1, g5⟩, hk k0 n0, hk k1 n1, hk k2 n2, hk k3 n2, hk k4 n3⟩
  have OWN := hide (own_below hh.row B1')
  clear h hh hu B1' hlt
  go_enter Try.func44, Try.ntmps44
  go_wp2_with fail
  go_region_held_law (fun W => W.cell? ⟨B0, 0, none⟩ = some (.pointer (some ⟨d, 0, none⟩)) ∧ W.cell? ⟨B1, 0, none⟩ = some (.string s) ∧ W.cell? ⟨B2, 0, none⟩ = some (.slice p x.bs.length c) ∧ W.cell? ⟨B2, 1, none⟩ = some (.int .i64 (x.sy : Int)) ∧ W.cell? ⟨B3, 0, none⟩ = some u) (first | (refine ⟨?_, ?_, ?_, ?_, ?_⟩ <;> with_reducible assumption) | go_keep)
    (first
    | ((refine step_append_b _ (by rfl) _ _ (by rfl) (.slice p x.bs.length c) x.bs (by rfl) (unhide OWN) u b2 (by rfl) (unhide HU) hl b3 (unhide HB3) ?_; intro p' c' w5 r1 r2 hg; obtain ⟨⟨m0, m1, m2, m3, m4⟩, HP⟩ := unhide HA p' c' w5 r1 r2 hg; clear r1 r2 hg))
    | ((go_at_call 37; refine (unhide HP).mono ?_; rintro e w6 ⟨⟨r, rfl⟩, hres, c0, c1, c2, c3, c4⟩; have HRES := hide hres; clear hres)))
  all_goals go_wp2_with fail
  all_goals go_end0
  all_goals exact ⟨⟨_, rfl⟩, unhide HRES⟩
end Go.Proofs.Ytpeohbkigkfcgaa
