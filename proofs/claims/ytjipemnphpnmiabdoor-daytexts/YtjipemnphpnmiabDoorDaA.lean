import Derived.Test.YtjipemnphpnmiabDoorLeA
import Derived.Deep.RegionWith
import Derived.Deep.RegionHeld3
import Derived.Deep.QuietTactic
import Derived.BigQuiet
namespace Go.Proofs.YtjipemnphpnmiabDoor
open Go.ChangeShapes Go.WideShapes Go.ChangeAt Go.RowKit
set_option linter.unusedVariables false
theorem keepMon {w W : World} (h : Mon w) (hb : Below w.heap.size w W) : Mon W := h.below hb
theorem mon1 {w : World} (h : Mon w) (o1 : Obj) : Mon (w.alloc o1) := h.below ((Below.refl _ _).alloc (Nat.le_refl _) o1)
theorem mon2 {w : World} (h : Mon w) (o1 o2 : Obj) : Mon ((w.alloc o1).alloc o2) := mon1 (mon1 h o1) o2
theorem mon3 {w : World} (h : Mon w) (o1 o2 o3 : Obj) : Mon (((w.alloc o1).alloc o2).alloc o3) := mon1 (mon2 h o1 o2) o3
theorem md {w : World} (h : Mon w) : Mon w.drew := h
theorem retA {a b c a' b' c' : Int} (h1 : a = a') (h2 : b = b') (h3 : c = c') : Ending.returned (.agg #[.int .i64 a, .int .i64 b, .int .i64 c]) = .returned (.agg #[.int .i64 a', .int .i64 b', .int .i64 c']) := by rw [h1, h2, h3]
theorem bal {w W : World} (h : Below w.heap.size w W) (o : Obj) : Below w.heap.size w (W.alloc o) := h.alloc h.size o
theorem below2 (w : World) (o1 o2 : Obj) (k : Nat) : Below w.heap.size w (((w.alloc o1).alloc o2).drewN k) := by
  have h1 : Below w.heap.size w (w.alloc o1) := (Below.refl _ _).alloc (Nat.le_refl _) o1
  exact below_drewN (h1.alloc (by rw [World.size_alloc]; omega) o2) k
/-- a store beside two cells -/
theorem keep2 {w : World} {b : Nat} {x y v : Value} (h0 : w.cell? ⟨b, 0, none⟩ = some x) (h1 : w.cell? ⟨b, 1, none⟩ = some y) : (w.setCell ⟨b, 2, none⟩ v).cell? ⟨b, 0, none⟩ = some x ∧ (w.setCell ⟨b, 2, none⟩ v).cell? ⟨b, 1, none⟩ = some y :=
  ⟨(World.cell?_setCell_other w _ _ v (by simp)).trans h0, (World.cell?_setCell_other w _ _ v (by simp)).trans h1⟩
/-- what nearest does with a date's day, as the program has it -/
def ops34 : Array Oper :=
      #[{ dst := some 13, op := Op.fieldAddr 25 (Operand.tmp 1) 2, type := 0, pos := "day.go:111", after := #[],
          guard := none },
        { dst := some 14, op := Op.load 3 (Operand.tmp 13), type := 3, pos := "day.go:111",
          after := #[{ on := 0, ground := Ground.data }], guard := none },
        { dst := some 15,
          op :=
            Op.call
              { callee := Callee.builtin Builtin.max,
                args := #[Operand.tmp 14, Operand.const (Value.int IntKind.i64 1)], argTypes := #[3, 3] },
          type := 3, pos := "day.go:111", after := #[{ on := 1, ground := Ground.data }], guard := none },
        { dst := some 16, op := Op.fieldAddr 25 (Operand.tmp 1) 0, type := 0, pos := "day.go:111", after := #[],
          guard := none },
        { dst := some 17, op := Op.load 3 (Operand.tmp 16), type := 3, pos := "day.go:111",
          after := #[{ on := 3, ground := Ground.data }], guard := none },
        { dst := some 18, op := Op.fieldAddr 25 (Operand.tmp 1) 1, type := 0, pos := "day.go:111", after := #[],
          guard := none },
        { dst := some 19, op := Op.load 3 (Operand.tmp 18), type := 3, pos := "day.go:111",
          after := #[{ on := 5, ground := Ground.data }], guard := none },
        { dst := some 20,
          op :=
            Op.call
              { callee := Callee.value (Operand.func 26), args := #[Operand.tmp 17, Operand.tmp 19],
                argTypes := #[3, 3] },
          type := 3, pos := "day.go:111",
          after := #[{ on := 4, ground := Ground.data }, { on := 6, ground := Ground.data }], guard := none },
        { dst := some 21,
          op :=
            Op.call
              { callee := Callee.builtin Builtin.min, args := #[Operand.tmp 15, Operand.tmp 20], argTypes := #[3, 3] },
          type := 3, pos := "day.go:111",
          after := #[{ on := 2, ground := Ground.data }, { on := 7, ground := Ground.data }], guard := none },
        { dst := some 22, op := Op.fieldAddr 25 (Operand.tmp 1) 2, type := 0, pos := "day.go:111",
          after :=
            #[{ on := 0, ground := Ground.phase }, { on := 1, ground := Ground.phase },
              { on := 2, ground := Ground.phase }, { on := 3, ground := Ground.phase },
              { on := 4, ground := Ground.phase }, { on := 5, ground := Ground.phase },
              { on := 6, ground := Ground.phase }, { on := 7, ground := Ground.phase },
              { on := 8, ground := Ground.phase }],
          guard := none },
        { dst := none, op := Op.store 3 (Operand.tmp 22) (Operand.tmp 21), type := 0, pos := "day.go:111",
          after :=
            #[{ on := 9, ground := Ground.data }, { on := 8, ground := Ground.data },
              { on := 7, ground := Ground.chain }, { on := 0, ground := Ground.phase },
              { on := 1, ground := Ground.phase }, { on := 2, ground := Ground.phase },
              { on := 3, ground := Ground.phase }, { on := 4, ground := Ground.phase },
              { on := 5, ground := Ground.phase }, { on := 6, ground := Ground.phase },
              { on := 7, ground := Ground.phase }, { on := 8, ground := Ground.phase }],
          guard := none }]
set_option maxHeartbeats 1000000 in
theorem reg34 (b : Nat) (y m : Int) (X : Nat) (D : Int) (W : World) (K : Act → World → Prop) (R : Ending → World → Prop) (t0 t2 t3 t4 t5 t6 t7 t8 t9 t10 t11 t12 t13 t14 t15 t16 t17 t18 t19 t20 t21 t22 t23 : Value)
    (hc0 : W.cell? ⟨b, 0, none⟩ = some (.int .i64 y)) (hc1 : W.cell? ⟨b, 1, none⟩ = some (.int .i64 m)) (hc2 : W.cell? ⟨b, 2, none⟩ = some (.int .i64 D)) (hf2 : W.frozen? ⟨b, 2, none⟩ = false)
    (DC : Hid (Calls Tryd.prog 26 #[.int .i64 y, .int .i64 m] W.drew fun e w' => e = .returned (.int .i64 (X : Int)) ∧ w' = W.drew))
    (hQ : Hid (K { tmps := #[t0, .pointer (some ⟨b, 0, none⟩), t2, t3, t4, t5, t6, t7, t8, t9, t10, t11, t12, .pointer (some ⟨b, 2, none⟩), .int .i64 D, .int .i64 (if D < 1 then 1 else D), .pointer (some ⟨b, 0, none⟩), .int .i64 y, .pointer (some ⟨b, 1, none⟩), .int .i64 m, .int .i64 (X : Int), .int .i64 (if (X : Int) < if D < 1 then 1 else D then (X : Int) else if D < 1 then 1 else D), .pointer (some ⟨b, 2, none⟩), t23], defers := [] } (W.drew.setCell ⟨b, 2, none⟩ (.int .i64 (if (X : Int) < if D < 1 then 1 else D then (X : Int) else if D < 1 then 1 else D))))) :
    Code.wp Tryd.prog (Code.region 3 ops34 true) (Exit.then K (bodyPost Tryd.prog Tryd.f28 R)) { tmps := #[t0, .pointer (some ⟨b, 0, none⟩), t2, t3, t4, t5, t6, t7, t8, t9, t10, t11, t12, t13, t14, t15, t16, t17, t18, t19, t20, t21, t22, t23], defers := [] } W := by
  unfold ops34
  refine wp_region_held_drew (S := fun w' => w'.cell? ⟨b, 0, none⟩ = some (.int .i64 y) ∧ w'.cell? ⟨b, 1, none⟩ = some (.int .i64 m)) (by kernel_rfl) ⟨hc0, hc1⟩ (fun hHeld => ?_)
  refine wpAnyH_take (i := 0) (v := ?v1) rfl (by kernel_rfl) (by kernel_rfl) (by kernel_rfl) (fun _ _ _ h => h) (Or.inl ⟨by rfl, ?hy1⟩) (by assumption) ?rest1
  case hy1 =>
    intro w hSw
    (try dsimp only at hSw)
    go_simp
    try (with_reducible rfl)
  refine wpAnyH_take (i := 3) (v := ?v2) rfl (by kernel_rfl) (by kernel_rfl) (by kernel_rfl) (fun _ _ _ h => h) (Or.inl ⟨by rfl, ?hy2⟩) (by assumption) ?rest2
  case hy2 =>
    intro w hSw
    (try dsimp only at hSw)
    go_simp
    try (with_reducible rfl)
  refine wpAnyH_take (i := 5) (v := ?v3) rfl (by kernel_rfl) (by kernel_rfl) (by kernel_rfl) (fun _ _ _ h => h) (Or.inl ⟨by rfl, ?hy3⟩) (by assumption) ?rest3
  case hy3 =>
    intro w hSw
    (try dsimp only at hSw)
    go_simp
    try (with_reducible rfl)
  refine wpAnyH_take (i := 4) (v := ?v4) rfl (by kernel_rfl) (by kernel_rfl) (by kernel_rfl) (fun _ _ _ h => h) (Or.inl ⟨by rfl, ?hy4⟩) (by assumption) ?rest4
  case hy4 =>
    intro w hSw
    (try dsimp only at hSw)
    go_simp
    try (with_reducible rfl)
  refine wpAnyH_take (i := 6) (v := ?v5) rfl (by kernel_rfl) (by kernel_rfl) (by kernel_rfl) (fun _ _ _ h => h) (Or.inl ⟨by rfl, ?hy5⟩) (by assumption) ?rest5
  case hy5 =>
    intro w hSw
    (try dsimp only at hSw)
    go_simp
    try (with_reducible rfl)
  refine wpAnyH_ready (rs := [1, 7]) (by kernel_rfl) (by simp) ?_
  refine AllReadyH.cons rfl (fun K hK => ?_) ?_
  · go_simp
    refine hK.out _ _ (by first | exact hHeld | exact keep2 hc0 hc1) (fun hHeld => ?_)
    clear hK K
    refine wpAnyH_take (i := 2) (v := ?v6) rfl (by kernel_rfl) (by kernel_rfl) (by kernel_rfl) (fun _ _ _ h => h) (Or.inl ⟨by rfl, ?hy6⟩) (by assumption) ?rest6
    case hy6 =>
      intro w hSw
      (try dsimp only at hSw)
      go_simp
      try (with_reducible rfl)
    refine wpAnyH_ready (rs := [7]) (by kernel_rfl) (by simp) ?_
    refine AllReadyH.cons rfl (fun K hK => ?_) ?_
    · go_simp
      refine (unhide DC).mono ?_
      rintro e w' ⟨rfl, hw⟩
      subst hw
      try dsimp only
      refine hK.out _ _ (by first | exact hHeld | exact keep2 hc0 hc1) (fun hHeld => ?_)
      clear hK K
      refine wpAnyH_take (i := 8) (v := ?v7) rfl (by kernel_rfl) (by kernel_rfl) (by kernel_rfl) (fun _ _ _ h => h) (Or.inl ⟨by rfl, ?hy7⟩) (by assumption) ?rest7
      case hy7 =>
        intro w hSw
        (try dsimp only at hSw)
        go_simp
        try (with_reducible rfl)
      refine wpAnyH_take (i := 9) (v := ?v8) rfl (by kernel_rfl) (by kernel_rfl) (by kernel_rfl) (fun _ _ _ h => h) (Or.inl ⟨by rfl, ?hy8⟩) (by assumption) ?rest8
      case hy8 =>
        intro w hSw
        (try dsimp only at hSw)
        go_simp
        try (with_reducible rfl)
      refine wpAnyH_ready (rs := [10]) (by kernel_rfl) (by simp) ?_
      refine AllReadyH.cons rfl (fun K hK => ?_) ?_
      · go_simp
        refine hK.out _ _ (by first | exact hHeld | exact keep2 hc0 hc1) (fun hHeld => ?_)
        clear hK K
        refine wpAnyH_done (by kernel_rfl) ?_ _
        exact unhide hQ
      exact AllReadyH.nil
    exact AllReadyH.nil
  refine AllReadyH.cons rfl (fun K hK => ?_) ?_
  · go_simp
    refine (unhide DC).mono ?_
    rintro e w' ⟨rfl, hw⟩
    subst hw
    try dsimp only
    refine hK.out _ _ (by first | exact hHeld | exact keep2 hc0 hc1) (fun hHeld => ?_)
    clear hK K
    refine wpAnyH_ready (rs := [1]) (by kernel_rfl) (by simp) ?_
    refine AllReadyH.cons rfl (fun K hK => ?_) ?_
    · go_simp
      refine hK.out _ _ (by first | exact hHeld | exact keep2 hc0 hc1) (fun hHeld => ?_)
      clear hK K
      refine wpAnyH_take (i := 2) (v := ?v9) rfl (by kernel_rfl) (by kernel_rfl) (by kernel_rfl) (fun _ _ _ h => h) (Or.inl ⟨by rfl, ?hy9⟩) (by assumption) ?rest9
      case hy9 =>
        intro w hSw
        (try dsimp only at hSw)
        go_simp
        try (with_reducible rfl)
      refine wpAnyH_take (i := 8) (v := ?v10) rfl (by kernel_rfl) (by kernel_rfl) (by kernel_rfl) (fun _ _ _ h => h) (Or.inl ⟨by rfl, ?hy10⟩) (by assumption) ?rest10
      case hy10 =>
        intro w hSw
        (try dsimp only at hSw)
        go_simp
        try (with_reducible rfl)
      refine wpAnyH_take (i := 9) (v := ?v11) rfl (by kernel_rfl) (by kernel_rfl) (by kernel_rfl) (fun _ _ _ h => h) (Or.inl ⟨by rfl, ?hy11⟩) (by assumption) ?rest11
      case hy11 =>
        intro w hSw
        (try dsimp only at hSw)
        go_simp
        try (with_reducible rfl)
      refine wpAnyH_ready (rs := [10]) (by kernel_rfl) (by simp) ?_
      refine AllReadyH.cons rfl (fun K hK => ?_) ?_
      · go_simp
        refine hK.out _ _ (by first | exact hHeld | exact keep2 hc0 hc1) (fun hHeld => ?_)
        clear hK K
        refine wpAnyH_done (by kernel_rfl) ?_ _
        exact unhide hQ
      exact AllReadyH.nil
    exact AllReadyH.nil
  exact AllReadyH.nil
end Go.Proofs.YtjipemnphpnmiabDoor
