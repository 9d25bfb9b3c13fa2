/- typing: kinds of elements; lists being made; typeAt 49, isShown 52. -/
import Derived.Test.YtfpbljfebjochaaGreatDoorAgR
import Derived.Deep.DeepAppendWide
namespace Go.Proofs.YtfpbljfebjochaaGreatDoor
open Go Go.Shelf Go.ChangeShapes Go.WideShapes Go.ChangeAt Go.RowKit Go.Maps
set_option linter.unusedVariables false
/-- a node of a query -/
structure Nd where
  op : Int
  left : Int
  right : Int
  field : Int
  num : Int
  text : ByteArray
def Nd.vals (x : Nd) : List Value := [.int .i64 x.op, .int .i64 x.left, .int .i64 x.right, .int .i64 x.field, .int .i64 x.num, .string x.text]
def Nd.val (x : Nd) : Value := .agg #[.int .i64 x.op, .int .i64 x.left, .int .i64 x.right, .int .i64 x.field, .int .i64 x.num, .string x.text]
def kI : Kd Int := ⟨fun x => [.int .i64 x], 1, 23, 3, 8⟩
def kN : Kd Nd := ⟨Nd.vals, 6, 22, 61, 56⟩
def kG : Kd (Int × Int) := ⟨fun x => [.int .i64 x.1, .int .i64 x.2], 2, 24, 75, 16⟩
def kO : Kd (Int × Bool) := ⟨fun x => [.int .i64 x.1, .bool x.2], 2, 25, 77, 16⟩
theorem kI_ok : KdOK kI := kd_ok (fun _ => rfl) (by decide) (fun x u hu => by simp [kI] at hu; subst hu; rfl) Tryz.underlying23 (z := .int .i64 0) (by kernel_rfl) rfl (by decide)
theorem kN_ok : KdOK kN := kd_ok (fun _ => rfl) (by decide) (fun x u hu => by simp [kN, Nd.vals] at hu; rcases hu with rfl | rfl | rfl | rfl | rfl | rfl <;> rfl) Tryz.underlying22 (z := .agg #[.int .i64 0, .int .i64 0, .int .i64 0, .int .i64 0, .int .i64 0, .string ⟨#[]⟩]) (by kernel_rfl) rfl (by decide)
theorem kG_ok : KdOK kG := kd_ok (fun _ => rfl) (by decide) (fun x u hu => by simp [kG] at hu; rcases hu with rfl | rfl <;> rfl) Tryz.underlying24 (z := .agg #[.int .i64 0, .int .i64 0]) (by kernel_rfl) rfl (by decide)
theorem kO_ok : KdOK kO := kd_ok (fun _ => rfl) (by decide) (fun x u hu => by simp [kO] at hu; rcases hu with rfl | rfl <;> rfl) Tryz.underlying25 (z := .agg #[.int .i64 0, .bool false]) (by kernel_rfl) rfl (by decide)
variable {α : Type} {K : Kd α}
/-- an append of elements that lie somewhere, however many there are -/
theorem run_appW (hK : KdOK K) {W : World} {B : Nat} {v : Value} {L M : List α} {n : Nat} (ty : TypeId) (h : W.ownsRow B K.e K.s v n (K.flat L)) (hB : B ≤ W.heap.size) (pu : Option Addr) (cu : Nat) (hcu : pu = none → cu = 0) (hu : Lies K W pu M) (hl : n + M.length ≤ 70000000000000) (hb : (n + M.length + (n + M.length) / 4 + 192) * K.by' ≤ 281474976710656) :
    ∃ p' c' w', (Builtin.append_ #[K.t, K.t] ty #[v, .slice pu M.length cu]).run Tryz.prog W = .ok (.slice p' (n + M.length) c') w' ∧ w'.ownsRow B K.e K.s (.slice p' (n + M.length) c') (n + M.length) (K.flat (L ++ M)) ∧ Below B W w' := by
  obtain ⟨i, z, hi, hz, hsize, hby, hzs⟩ := hK.info
  cases pu with
  | none =>
    have hR := hu.1 rfl
    subst hR
    rw [hcu rfl]
    have hr := run_append_owned_none (P := Tryz.prog) (w := W) B K.t ty K.e i K.s hK.und hi v n (K.flat L) h
    obtain ⟨p, c, e, _⟩ := row_slice h
    subst e
    exact ⟨p, c, W, hr, by rw [List.append_nil]; exact h, Below.refl _ _⟩
  | some ad =>
    obtain ⟨v', w', hr, ho, hg, hnil⟩ := run_append_own_wide (P := Tryz.prog) W B K.t ty K.e i z K.s K.by' hK.und hi hz hsize hby hzs hK.pos v n (K.flat L) h ad M.length cu (K.flat M) (flat_len hK M) (news_of hK hu) (flat_one hK M) (by unfold maxLen; omega) hb hB
    have ho2 : w'.ownsRow B K.e K.s v' (n + M.length) (K.flat (L ++ M)) := by rw [flat_append]; exact ho
    obtain ⟨p, c, e, _⟩ := row_slice ho2
    subst e
    refine ⟨p, c, w', hr, ho2, ⟨hg.os, hg.tape, hg.output, hg.size, fun q hq => hg.block q (Nat.lt_of_lt_of_le hq hB) (fun e => ?_)⟩⟩
    have := (row_block h e.symm).1
    omega
/-- a list that a call is making -/
structure Rw (K : Kd α) (W wr : World) (v : Value) (n : Nat) (L : List α) : Prop where
  row : wr.ownsRow W.heap.size K.e K.s v n (K.flat L)
  bel : Below W.heap.size W wr
  len : L.length = n
theorem Rw.drewN {W wr : World} {v : Value} {n : Nat} {L : List α} (h : Rw K W wr v n L) (m : Nat) : Rw K W (wr.drewN m) v n L := ⟨h.row, below_drewN h.bel m, h.len⟩
theorem Rw.nil (W : World) : Rw K W W (.slice none 0 0) 0 [] := ⟨⟨by simp [Kd.flat], .inl ⟨rfl, rfl⟩⟩, Below.refl _ _, rfl⟩
/-- what comes behind and lays new blocks alone -/
theorem Rw.below {W wr w' : World} {v : Value} {n : Nat} {L : List α} (h : Rw K W wr v n L) (hb : Below wr.heap.size wr w') : Rw K W w' v n L :=
  ⟨row_keep h.row (fun g hg => hb.block g (row_block h.row hg).2.1), h.bel.trans (hb.mono h.bel.size), h.len⟩
theorem Rw.lies (hK : KdOK K) {W wr : World} {p : Option Addr} {c n : Nat} {L : List α} (h : Rw K W wr (.slice p n c) n L) : Lies K wr p L := own_lies hK h.len h.row
/-- one element more -/
theorem Rw.put (hK : KdOK K) {W wr : World} {v : Value} {n : Nat} {L : List α} (h : Rw K W wr v n L) (x : α) (vs : Array Value) (hv : vs.toList = K.enc x) (ty : TypeId) (hl : n + 1 ≤ 70000000000000) (hb : (n + 1 + (n + 1) / 4 + 192) * K.by' ≤ 281474976710656) :
    ∃ p' c' w', (Builtin.append_ #[K.t, K.t] ty #[v, .slice (some ⟨wr.heap.size, 0, none⟩) 1 1]).run Tryz.prog (wr.alloc (.cells vs K.e)) = .ok (.slice p' (n + 1) c') w' ∧ Rw K W w' (.slice p' (n + 1) c') (n + 1) (L ++ [x]) := by
  obtain ⟨p8, c8, w8, r8, o8, b8⟩ := run_appW hK ty (W := wr.alloc (.cells vs K.e)) (M := [x]) (B := W.heap.size) (L := L) (n := n) (v := v) (h.row.alloc _) (Nat.le_trans h.bel.size (by simp)) (some ⟨wr.heap.size, 0, none⟩) 1 (fun h => by cases h) (one_lies wr x K.e vs hv) hl hb
  exact ⟨p8, c8, w8, r8, o8, (h.bel.alloc h.bel.size _).trans b8, by rw [List.length_append, h.len]; rfl⟩
theorem nat_bound {n b k c : Nat} (h : n ≤ c) (hc : (c + c / 4 + 192) * b ≤ k) : (n + n / 4 + 192) * b ≤ k := Nat.le_trans (Nat.mul_le_mul_right _ (by omega)) hc
/-- the type at a place -/
def tat (T : List Int) (i : Int) : Int := if i < 0 ∨ (T.length : Int) ≤ i then 0 else T.getD i.toNat 0
theorem typeAt_any {W : World} {p : Option Addr} {n c : Nat} {T : List Int} (hn : T.length = n) (hT : Lies kI W p T) (i : Int) : Calls Tryz.prog 139 #[.slice p n c, .int .i64 i] W fun e w' => e = .returned (.int .i64 (tat T i)) ∧ w' = W := by
  by_cases h1 : i < 0
  · have e : tat T i = 0 := by unfold tat; rw [if_pos (.inl h1)]
    rw [e]
    clear hT
    go_enter Tryz.func139, Tryz.ntmps139
    go_wp2_with fail
    go_ret
    exact ⟨rfl, rfl⟩
  · by_cases h2 : i ≥ (n : Int)
    · have e : tat T i = 0 := by unfold tat; rw [if_pos (.inr (by omega))]
      rw [e]
      clear hT hn e
      go_enter Tryz.func139, Tryz.ntmps139
      go_wp2_with fail
      go_ret
      exact ⟨rfl, rfl⟩
    · obtain ⟨k, rfl⟩ : ∃ k : Nat, i = k := ⟨i.toNat, by omega⟩
      have hk : k < T.length := by omega
      have e : tat T k = T[k] := by
        unfold tat
        rw [if_neg (by omega)]
        simp [List.getD, hk]
      rw [e]
      obtain ⟨b, off, hp, hlt, hr⟩ := hT.2 k hk
      obtain ⟨x, hx⟩ : ∃ x, x = T[k] := ⟨_, rfl⟩
      rw [← hx] at hr ⊢
      have hc := hr 0 (.int .i64 x) rfl
      subst hp
      have hkn : (k : Int) < (n : Int) := by omega
      clear hr hT hn e hx hk
      simp only [kI, Nat.mul_one, Nat.add_zero] at hc
      go_enter Tryz.func139, Tryz.ntmps139
      go_wp2_with fail
      go_ret
      exact ⟨rfl, rfl⟩
/-- can an aggregate be told? -/
def shwS (x : Int × Int) (T : List Int) : Bool := if x.1 = 1 then true else if x.1 = 2 then (tat T x.2 == 1 || tat T x.2 == 5) else if x.1 = 3 ∨ x.1 = 4 then (!(tat T x.2 == 0) && !(tat T x.2 == 4)) else false
set_option maxRecDepth 100000 in
theorem isShown_any {W : World} {p : Option Addr} {n c : Nat} {T : List Int} (hn : T.length = n) (hT : Lies kI W p T) (x : Int × Int) : Calls Tryz.prog 143 #[.agg #[.int .i64 x.1, .int .i64 x.2], .slice p n c] W fun e w' => e = .returned (.bool (shwS x T)) ∧ Below W.heap.size W w' := by
  obtain ⟨k, i⟩ := x
  have d := hide (fun (o : Obj) => typeAt_any (c := c) hn (hT.below ((Below.refl _ W).alloc (Nat.le_refl _) o)) i)
  have d2 := hide isTyped_any
  have HB : Hid (∀ o, Below W.heap.size W (W.alloc o)) := fun o => (Below.refl _ W).alloc (Nat.le_refl _) o
  unfold shwS
  simp only
  obtain ⟨t, ht⟩ : ∃ t, t = tat T i := ⟨_, rfl⟩
  rw [← ht] at d ⊢
  clear ht hT hn
  by_cases h1 : k = 1
  · subst h1
    go_enter Tryz.func143, Tryz.ntmps143
    go_wp2_with fail
    refine (unhide d _).mono ?_
    rintro e w1 ⟨rfl, hw⟩
    rw [hw]; clear hw w1
    go_wp2_with fail
    go_ret
    exact ⟨rfl, unhide HB _⟩
  · have h1' := beqF h1
    rw [if_neg h1]
    by_cases h2 : k = 2
    · subst h2
      rw [if_pos rfl]
      by_cases g1 : t = 1
      · subst g1
        go_enter Tryz.func143, Tryz.ntmps143
        go_wp2_with fail
        refine (unhide d _).mono ?_
        rintro e w1 ⟨rfl, hw⟩
        rw [hw]; clear hw w1
        go_wp2_with fail
        go_ret
        exact ⟨rfl, unhide HB _⟩
      · have g1' := beqF g1
        rw [g1']
        go_enter Tryz.func143, Tryz.ntmps143
        go_wp2_with fail
        refine (unhide d _).mono ?_
        rintro e w1 ⟨rfl, hw⟩
        rw [hw]; clear hw w1
        go_wp2_with fail
        go_ret
        exact ⟨rfl, unhide HB _⟩
    · have h2' := beqF h2
      rw [if_neg h2]
      by_cases h34 : k = 3 ∨ k = 4
      · rw [if_pos h34]
        by_cases g0 : t = 0
        · subst g0
          rcases h34 with rfl | rfl
          · go_enter Tryz.func143, Tryz.ntmps143
            go_wp2_with fail
            refine (unhide d _).mono ?_
            rintro e w1 ⟨rfl, hw⟩
            rw [hw]; clear hw w1
            go_wp2_with fail
            refine (unhide d2 _ _).mono ?_
            rintro e w1 ⟨rfl, hw⟩
            rw [hw]; clear hw w1
            go_wp2_with fail
            go_ret
            exact ⟨rfl, unhide HB _⟩
          · go_enter Tryz.func143, Tryz.ntmps143
            go_wp2_with fail
            refine (unhide d _).mono ?_
            rintro e w1 ⟨rfl, hw⟩
            rw [hw]; clear hw w1
            go_wp2_with fail
            refine (unhide d2 _ _).mono ?_
            rintro e w1 ⟨rfl, hw⟩
            rw [hw]; clear hw w1
            go_wp2_with fail
            go_ret
            exact ⟨rfl, unhide HB _⟩
        · have g0' := beqF g0
          rw [g0']
          have d3 := hide (isTyped_any t)
          rw [g0'] at d3
          clear d2
          rcases h34 with rfl | rfl
          · go_enter Tryz.func143, Tryz.ntmps143
            go_wp2_with fail
            refine (unhide d _).mono ?_
            rintro e w1 ⟨rfl, hw⟩
            rw [hw]; clear hw w1
            go_wp2_with fail
            refine (unhide d3 _).mono ?_
            rintro e w1 ⟨rfl, hw⟩
            rw [hw]; clear hw w1
            go_wp2_with fail
            go_ret
            exact ⟨rfl, unhide HB _⟩
          · go_enter Tryz.func143, Tryz.ntmps143
            go_wp2_with fail
            refine (unhide d _).mono ?_
            rintro e w1 ⟨rfl, hw⟩
            rw [hw]; clear hw w1
            go_wp2_with fail
            refine (unhide d3 _).mono ?_
            rintro e w1 ⟨rfl, hw⟩
            rw [hw]; clear hw w1
            go_wp2_with fail
            go_ret
            exact ⟨rfl, unhide HB _⟩
      · rw [if_neg h34]
        have h3' := beqF (a := k) (b := 3) (by omega)
        have h4' := beqF (a := k) (b := 4) (by omega)
        clear h34
        go_enter Tryz.func143, Tryz.ntmps143
        go_wp2_with fail
        refine (unhide d _).mono ?_
        rintro e w1 ⟨rfl, hw⟩
        rw [hw]; clear hw w1
        go_wp2_with fail
        go_ret
        exact ⟨rfl, unhide HB _⟩
end Go.Proofs.YtfpbljfebjochaaGreatDoor
