import Derived.Test.YtdeibifjiefapaaGreatDoorW15
/- chart: isDay (32), isType (33), New (12), May (21), Find (14). -/
namespace Go.Proofs.YtdeibifjiefapaaGreatDoor
open Go Go.Shelf Go.ChangeShapes Go.WideShapes Go.ChangeAt Go.RowKit Go.Maps Go.Sort
set_option linter.unusedVariables false
/-- a chart in memory -/
structure Ct (W : World) (d : Nat) (S : Nat → Prop) (L : List Ac) (g : Gh) : Prop where
  ch : ChAt W d S L g
  good : Good L
  inh : ∀ k, S k → k < W.heap.size
theorem Ct.below {W W' : World} {d : Nat} {S : Nat → Prop} {L : List Ac} {g : Gh} (h : Ct W d S L g) (hb : Below W.heap.size W W') : Ct W' d S L g :=
  ⟨h.ch.keep (fun k hk => hb.block k (h.inh k hk)), h.good, fun k hk => Nat.lt_of_lt_of_le (h.inh k hk) hb.size⟩
/-- how a chart lies behind a call that may change it -/
def Chg (W : World) (d : Nat) (S : Nat → Prop) (L : List Ac) (w' : World) : Prop := ∃ S' g', Ct w' d S' L g' ∧ (∀ k, S' k → S k ∨ W.heap.size ≤ k) ∧ Fr S W w'
theorem Chg.below {W w' : World} {d : Nat} {S : Nat → Prop} {L : List Ac} {g : Gh} (h : Ct W d S L g) (hb : Below W.heap.size W w') : Chg W d S L w' := ⟨S, g, h.below hb, fun k hk => .inl hk, Fr.below hb⟩
theorem isDay_any (z : Int) (w : World) : Calls Tryz.prog 81 #[.int .i64 z] w fun e w' => e = .returned (.bool (decide (1 ≤ z ∧ z ≤ 3652059))) ∧ w' = w := by
  by_cases h1 : 1 ≤ z
  · by_cases h2 : z ≤ 3652059
    · rw [decide_eq_true ⟨h1, h2⟩]
      go_enter Tryz.func81, Tryz.ntmps81
      go_wp2
      go_ret
      exact ⟨rfl, rfl⟩
    · rw [decide_eq_false (fun h => h2 h.2)]
      go_enter Tryz.func81, Tryz.ntmps81
      go_wp2
      go_ret
      exact ⟨rfl, rfl⟩
  · rw [decide_eq_false (fun h => h1 h.1)]
    go_enter Tryz.func81, Tryz.ntmps81
    go_wp2
    go_ret
    exact ⟨rfl, rfl⟩
theorem isType_any (z : Int) (w : World) : Calls Tryz.prog 82 #[.int .i64 z] w fun e w' => e = .returned (.bool (decide (1 ≤ z ∧ z ≤ 5))) ∧ w' = w := by
  by_cases h1 : 1 ≤ z
  · by_cases h2 : z ≤ 5
    · rw [decide_eq_true ⟨h1, h2⟩]
      go_enter Tryz.func82, Tryz.ntmps82
      go_wp2
      go_ret
      exact ⟨rfl, rfl⟩
    · rw [decide_eq_false (fun h => h2 h.2)]
      go_enter Tryz.func82, Tryz.ntmps82
      go_wp2
      go_ret
      exact ⟨rfl, rfl⟩
  · rw [decide_eq_false (fun h => h1 h.1)]
    go_enter Tryz.func82, Tryz.ntmps82
    go_wp2
    go_ret
    exact ⟨rfl, rfl⟩
theorem new_any (w : World) : Calls Tryz.prog 6 #[] w fun e w' => e = .returned (ptr w.heap.size) ∧ w' = w.alloc (.cells (cellsA top0 (.slice none 0 0)) 70) := by
  go_enter Tryz.func6, Tryz.ntmps6
  go_wp2
  go_ret
  exact ⟨rfl, rfl⟩
def g0 (d : Nat) : Gh := ⟨fun _ => d, fun _ => none, fun _ => 0, fun _ => []⟩
theorem good_nil : Good [] := ⟨List.Pairwise.nil, (fun a h => by cases h), (fun a h => by cases h), (fun a h => by cases h), (fun a h => by cases h), by decide⟩
theorem new_ct (w : World) : Ct (w.alloc (.cells (cellsA top0 (.slice none 0 0)) 70)) w.heap.size (fun k => k = w.heap.size) [] (g0 w.heap.size) := by
  refine ⟨⟨rfl, World.alloc_heap_new w _, (fun a h => by cases h), fun x hx => .inl ⟨rfl, rfl, rfl⟩, rfl, (fun a h => by cases h), (fun x q hx h => by cases h)⟩, good_nil, fun k hk => by rw [hk]; simp⟩
/-- what May answers -/
def mayE (L : List Ac) (x : Nm) (z : Int) : Int := match fnd L x with
  | none => 61
  | some a => if a.cl = true then 63 else if z < a.dy then 66 else 0
theorem seek_none {g : Gh} {L : List Ac} {x : Nm} (h : fnd L x = none) : seekV g L x = .pointer none := by rw [seekV, if_neg (fnd_none h)]
theorem seek_some {g : Gh} {L : List Ac} {x : Nm} {a : Ac} (h : fnd L x = some a) : seekV g L x = ptr (g.nd x) := by
  obtain ⟨h1, h2⟩ := fnd_some h
  rw [seekV, if_pos ⟨a, h1, h2⟩]
theorem Ct.node {W : World} {d : Nat} {S : Nat → Prop} {L : List Ac} {g : Gh} (h : Ct W d S L g) {x : Nm} {a : Ac} (hf : fnd L x = some a) : W.heap[g.nd x]? = some (.cells (cellsA a (ksl g L a.nm)) 68) := by
  obtain ⟨h1, h2⟩ := fnd_some hf
  rw [← h2]
  exact h.ch.node a h1
set_option maxHeartbeats 2000000 in
theorem may_any {W : World} {d : Nat} {S : Nat → Prop} {L : List Ac} {g : Gh} (h : Ct W d S L g) (t : ByteArray) (ht : t.size < 4611686018427387904) (z : Int) :
    Calls Tryz.prog 20 #[ptr d, .string t, .int .i64 z] W fun e w' => e = .returned (.int .i64 (mayE L t.data.toList z)) ∧ Below W.heap.size W w' := by
  have dS := hide (seek_any h.ch h.good h.inh t ht)
  have HC := hide h
  obtain ⟨x, hx⟩ : ∃ x, x = t.data.toList := ⟨_, rfl⟩
  rw [← hx] at dS ⊢
  obtain ⟨E, hE⟩ : ∃ E, E = mayE L x z := ⟨_, rfl⟩
  rw [← hE]
  clear hx h
  cases hf : fnd L x with
  | none =>
    rw [seek_none hf] at dS
    have e1 : E = 61 := by rw [hE, mayE, hf]
    subst e1
    clear hf hE
    go_enter Tryz.func20, Tryz.ntmps20
    go_upto_region 2 with (go_at_call 83; refine (unhide dS).mono ?_; rintro e X ⟨rfl, hb⟩; have HB := hide hb; clear hb)
    go_wp2
    go_ret
    exact ⟨rfl, unhide HB⟩
  | some a =>
    rw [seek_some hf] at dS
    have e1 : E = if a.cl = true then 63 else if z < a.dy then 66 else 0 := by rw [hE, mayE, hf]
    have hnd := (unhide HC).node hf
    obtain ⟨nx, hnx⟩ : ∃ nx, nx = g.nd x := ⟨_, rfl⟩
    rw [← hnx] at hnd dS
    have HND := hide hnd
    clear hf hnx hnd hE
    have hX : ∀ X, Below W.heap.size W X → X.cell? ⟨nx, 3, none⟩ = some (.bool a.cl) ∧ X.cell? ⟨nx, 2, none⟩ = some (.int .i64 a.dy) := fun X hb => by
      have hX : X.heap[nx]? = some (.cells (cellsA a (ksl g L a.nm)) 68) := (hb.block nx (Array.getElem?_eq_some_iff.1 (unhide HND)).1).trans (unhide HND)
      exact ⟨cell_of hX rfl, cell_of hX rfl⟩
    have HX := hide hX
    clear hX
    cases hcl : a.cl with
    | true =>
      have e2 : E = 63 := by rw [e1, hcl]; rfl
      subst e2
      rw [hcl] at HX
      clear hcl e1
      go_enter Tryz.func20, Tryz.ntmps20
      go_upto_region 2 with (go_at_call 83; refine (unhide dS).mono ?_; rintro e X ⟨rfl, hb⟩; have c3 := (unhide HX X hb).1; have HB := hide hb; clear hb)
      go_wp2
      go_ret
      exact ⟨rfl, unhide HB⟩
    | false =>
      rw [hcl] at HX
      by_cases hz : z < a.dy
      · have e2 : E = 66 := by rw [e1, hcl, if_neg (by decide), if_pos hz]
        subst e2
        clear hcl e1
        go_enter Tryz.func20, Tryz.ntmps20
        go_upto_region 2 with (go_at_call 83; refine (unhide dS).mono ?_; rintro e X ⟨rfl, hb⟩; have c3 := (unhide HX X hb).1; have c2 := (unhide HX X hb).2; have HB := hide hb; clear hb)
        go_wp2
        go_ret
        exact ⟨rfl, unhide HB⟩
      · have e2 : E = 0 := by rw [e1, hcl, if_neg (by decide), if_neg hz]
        subst e2
        clear hcl e1
        go_enter Tryz.func20, Tryz.ntmps20
        go_upto_region 2 with (go_at_call 83; refine (unhide dS).mono ?_; rintro e X ⟨rfl, hb⟩; have c3 := (unhide HX X hb).1; have c2 := (unhide HX X hb).2; have HB := hide hb; clear hb)
        go_wp2
        go_ret
        exact ⟨rfl, unhide HB⟩
/-- an account as a value -/
def acV (a : Ac) : Value := .agg #[.string (txN a.nm), .int .i64 a.ty, .int .i64 a.dy, .bool a.cl]
def vals4 (a : Ac) : List Value := [.string (txN a.nm), .int .i64 a.ty, .int .i64 a.dy, .bool a.cl]
theorem sz41 : (Tryz.prog.info? 65).map (·.size) = some 4 := by kernel_rfl
theorem lv41 {w : World} {b o : Nat} {a : Ac} (h : w.rangeAt b o (vals4 a)) : (loadVar 65 ⟨b, o, none⟩).run Tryz.prog w = .ok (acV a) w := by
  have h1 := run_loadAt_mid (P := Tryz.prog) w b o 65 (vals4 a) _ h Tryz.underlying65 rfl sz41
  have h2 : acV a = .agg (vals4 a).toArray := rfl
  rw [h2]
  simpa only [Instr.loadAt, Instr.sureAddr, Sem.run_bind, Sem.run_pure, Result.andThen_ok] using h1
theorem results_ct {P : Program} {fn : Func} {a b : Nat} {t : TypeId} (h : fn.results = #[.cell a t, .tmp b]) {tmps : Array Value} {ad : Addr} {v u : Value} {w : World} (ha : tmps.getD a undef = .pointer (some ad)) (hb : tmps.getD b undef = u) (hl : (loadVar t ad).run P w = .ok v w) : (results fn tmps).run P w = .ok (.tuple #[v, u]) w := by
  unfold results
  simp only [Array.getD_eq_getD_getElem?] at ha hb
  simp [h, ha, hb, asAddr, hl, Result.andThen]
/-- an account stored -/
abbrev st4 (X : World) (b : Nat) (a : Ac) : World := (((X.setCell ⟨b, 0, none⟩ (.string (txN a.nm))).setCell ⟨b, 1, none⟩ (.int .i64 a.ty)).setCell ⟨b, 2, none⟩ (.int .i64 a.dy)).setCell ⟨b, 3, none⟩ (.bool a.cl)
theorem st4_is {X : World} {b : Nat} {c0 c1 c2 c3 : Value} (h : X.heap[b]? = some (.cells #[c0, c1, c2, c3] 65)) (a : Ac) : (st4 X b a).heap[b]? = some (.cells #[.string (txN a.nm), .int .i64 a.ty, .int .i64 a.dy, .bool a.cl] 65) := by
  exact heap_set (heap_set (heap_set (heap_set h _) _) _) _
theorem st4_below {W X : World} {b : Nat} (h : Below W.heap.size W X) (hb : W.heap.size ≤ b) (a : Ac) : Below W.heap.size W (st4 X b a) := (((h.setCell hb _).setCell hb _).setCell hb _).setCell hb _
theorem range4 {X : World} {b : Nat} {a : Ac} (h : X.heap[b]? = some (.cells #[.string (txN a.nm), .int .i64 a.ty, .int .i64 a.dy, .bool a.cl] 65)) : X.rangeAt b 0 (vals4 a) := fun j v hj => cell_of h (by rw [Nat.zero_add]; simpa [vals4] using hj)
/-- what Find answers -/
def findA (L : List Ac) (x : Nm) : Ac := (fnd L x).getD top0
set_option maxRecDepth 100000 in
set_option maxHeartbeats 2000000 in
theorem find_any {W : World} {d : Nat} {S : Nat → Prop} {L : List Ac} {g : Gh} (h : Ct W d S L g) (t : ByteArray) (ht : t.size < 4611686018427387904) :
    Calls Tryz.prog 22 #[ptr d, .string t] W fun e w' => e = .returned (.tuple #[acV (findA L t.data.toList), .bool (fnd L t.data.toList).isSome]) ∧ Below W.heap.size W w' := by
  have dS0 : ∀ w1, Below W.heap.size W w1 → Calls Tryz.prog 83 #[ptr d, .string t] w1 fun e w' => e = .returned (seekV g L t.data.toList) ∧ Below w1.heap.size w1 w' := fun w1 hb =>
    seek_any (h.below hb).ch h.good (h.below hb).inh t ht
  have dS := hide dS0
  have HC := hide h
  obtain ⟨x, hx⟩ : ∃ x, x = t.data.toList := ⟨_, rfl⟩
  rw [← hx] at dS ⊢
  clear hx h dS0
  cases hf : fnd L x with
  | none =>
    rw [seek_none hf] at dS
    have e1 : findA L x = top0 := by rw [findA, hf]; rfl
    rw [e1]
    clear hf e1
    go_enter Tryz.func22, Tryz.ntmps22
    go_upto_region 2 with (go_at_call 83; refine (unhide dS _ ((Below.refl _ W).alloc (Nat.le_refl _) _)).mono ?_; rintro e X ⟨rfl, hb⟩)
    have r1 : X.heap[W.heap.size]? = some (.cells #[.string ⟨#[]⟩, .int .i64 0, .int .i64 0, .bool false] 65) := (hb.block W.heap.size (by simp)).trans (World.alloc_heap_new W _)
    have B1 : Hid (Below W.heap.size W X) := ((Below.refl _ W).alloc (Nat.le_refl _) _).trans (hb.mono (by simp))
    have k0 : X.cell? ⟨W.heap.size, 0, none⟩ = some (.string ⟨#[]⟩) := cell_of r1 rfl
    have k1 : X.cell? ⟨W.heap.size, 1, none⟩ = some (.int .i64 0) := cell_of r1 rfl
    have k2 : X.cell? ⟨W.heap.size, 2, none⟩ = some (.int .i64 0) := cell_of r1 rfl
    have k3 : X.cell? ⟨W.heap.size, 3, none⟩ = some (.bool false) := cell_of r1 rfl
    have f0 := froz_of r1 0; have f1 := froz_of r1 1; have f2 := froz_of r1 2; have f3 := froz_of r1 3
    have R1 := hide r1
    clear hb r1
    go_wp2
    refine bodyPost_ret (results_ct (v := acV top0) (u := .bool false) Tryz.results22 rfl rfl (lv41 (range4 (st4_is (unhide R1) top0)))) rfl ?_
    exact ⟨rfl, st4_below (unhide B1) (Nat.le_refl _) top0⟩
  | some a =>
    rw [seek_some hf] at dS
    have e1 : findA L x = a := by rw [findA, hf]; rfl
    rw [e1]
    have hnd := (unhide HC).node hf
    obtain ⟨nx, hnx⟩ : ∃ nx, nx = g.nd x := ⟨_, rfl⟩
    rw [← hnx] at hnd dS
    have HND := hide hnd
    clear hf e1 hnx hnd
    go_enter Tryz.func22, Tryz.ntmps22
    go_upto_region 2 with (go_at_call 83; refine (unhide dS _ ((Below.refl _ W).alloc (Nat.le_refl _) _)).mono ?_; rintro e X ⟨rfl, hb⟩)
    have r1 : X.heap[W.heap.size]? = some (.cells #[.string ⟨#[]⟩, .int .i64 0, .int .i64 0, .bool false] 65) := (hb.block W.heap.size (by simp)).trans (World.alloc_heap_new W _)
    have b1 : Below W.heap.size W X := ((Below.refl _ W).alloc (Nat.le_refl _) _).trans (hb.mono (by simp))
    have hX : X.heap[nx]? = some (.cells (cellsA a (ksl g L a.nm)) 68) := (b1.block nx (Array.getElem?_eq_some_iff.1 (unhide HND)).1).trans (unhide HND)
    have B1 := hide b1
    have n0 : X.cell? ⟨nx, 0, none⟩ = some (.string (txN a.nm)) := cell_of hX rfl
    have n1 : X.cell? ⟨nx, 1, none⟩ = some (.int .i64 a.ty) := cell_of hX rfl
    have n2 : X.cell? ⟨nx, 2, none⟩ = some (.int .i64 a.dy) := cell_of hX rfl
    have n3 : X.cell? ⟨nx, 3, none⟩ = some (.bool a.cl) := cell_of hX rfl
    have k0 : X.cell? ⟨W.heap.size, 0, none⟩ = some (.string ⟨#[]⟩) := cell_of r1 rfl
    have k1 : X.cell? ⟨W.heap.size, 1, none⟩ = some (.int .i64 0) := cell_of r1 rfl
    have k2 : X.cell? ⟨W.heap.size, 2, none⟩ = some (.int .i64 0) := cell_of r1 rfl
    have k3 : X.cell? ⟨W.heap.size, 3, none⟩ = some (.bool false) := cell_of r1 rfl
    have f0 := froz_of r1 0; have f1 := froz_of r1 1; have f2 := froz_of r1 2; have f3 := froz_of r1 3
    have R1 := hide r1
    clear hb r1 b1 hX
    go_wp2
    refine bodyPost_ret (results_ct (v := acV a) (u := .bool true) Tryz.results22 rfl rfl (lv41 (range4 (st4_is (unhide R1) a)))) rfl ?_
    exact ⟨rfl, st4_below (unhide B1) (Nat.le_refl _) a⟩
end Go.Proofs.YtdeibifjiefapaaGreatDoor
