import Derived.Test.YtmgnlgobkkfjhaaGreatDoorW32
import Derived.Test.YtmgnlgobkkfjhaaGreatDoorW31
import Derived.Test.YtmgnlgobkkfjhaaGreatDoorW26
import Derived.Test.YtmgnlgobkkfjhaaGreatDoorW24
/- daily: plays, its loads and stores, plain. -/
namespace Go.Proofs.YtmgnlgobkkfjhaaGreatDoor.Kg
open Go Go.RowKit Go.Shelf Go.ChangeShapes Go.WideShapes Go.ChangeAt Go.Maps
set_option linter.unusedVariables false
set_option linter.unusedSimpArgs false
set_option maxRecDepth 100000
set_option maxHeartbeats 8000000
def ld42 (x : Value) : Sem Value := Instr.loadAt 42 x
theorem ld42_is (x : Value) : Instr.loadAt 42 x = ld42 x := rfl
theorem siz42 : (Tryz.prog.info? 42).map (·.size) = some 2 := by kernel_rfl
theorem run_ld42 {w : World} {b : Nat} {x y : Value} (h : w.heap[b]? = some (.cells #[x, y] 42 (0, 0))) : (ld42 (.pointer (some ⟨b, 0, none⟩))).run Tryz.prog w = .ok (.agg #[x, y]) w :=
  run_loadAt_mid (P := Tryz.prog) w b 0 42 [x, y] _ (fun j u hu => by rw [Nat.zero_add, cell_at h]; simpa using hu) Tryz.underlying42 rfl siz42
def st42 (x y : Value) : Sem Unit := Instr.storeAt 42 x y
theorem st42_is (x y : Value) : Instr.storeAt 42 x y = st42 x y := rfl
theorem run_st42 {w : World} {b : Nat} {x0 x1 : Value} (h : w.heap[b]? = some (.cells #[x0, x1] 42 (0, 0))) {d r : Option Addr} : (st42 (.pointer (some ⟨b, 0, none⟩)) (.agg #[.pointer d, .pointer r])).run Tryz.prog w = .ok () (w.setCells b 0 [.pointer d, .pointer r]) :=
  run_storeAt_mid (P := Tryz.prog) w b 0 42 #[.pointer d, .pointer r] (fun j hj => by
    have hj' : j < 2 := by simpa using hj
    match j, hj' with
    | 0, _ => simp [World.cell?, World.frozen?, h]
    | 1, _ => simp [World.cell?, World.frozen?, h]) siz42 (by simp [Value.oneCell'])
theorem heap_set2 {w : World} {b : Nat} {x0 x1 v0 v1 : Value} {t : TypeId} (h : w.heap[b]? = some (.cells #[x0, x1] t (0, 0))) : (w.setCells b 0 [v0, v1]).heap[b]? = some (.cells #[v0, v1] t (0, 0)) := by
  unfold World.setCells World.setCells World.setCells
  rw [set_heap (set_heap h)]
  rfl
def ld68 (x : Value) : Sem Value := Instr.loadAt 68 x
theorem ld68_is (x : Value) : Instr.loadAt 68 x = ld68 x := rfl
theorem siz68 : (Tryz.prog.info? 68).map (·.size) = some 5 := by kernel_rfl
theorem run_ld68 {w : World} {b o : Nat} {a : ActV} (h : w.rangeAt b o a.arr.toList) : (ld68 (.pointer (some ⟨b, o, none⟩))).run Tryz.prog w = .ok (.agg #[.int .i64 a.who, .slice a.p a.R.length a.c, .string a.nm, .int .i64 a.fr, .int .i64 a.tt]) w :=
  run_loadAt_mid (P := Tryz.prog) w b o 68 a.arr.toList _ h Tryz.underlying68 rfl siz68
def st38 (x y : Value) : Sem Unit := Instr.storeAt 38 x y
theorem st38_is (x y : Value) : Instr.storeAt 38 x y = st38 x y := rfl
theorem run_st38 {W : World} {g i : Nat} (h : W.there g (i * 4) 4) : (st38 (.pointer (some ⟨g, i * 4, none⟩)) (.agg #[.string ⟨#[90]⟩, .int .i64 5, .int .i64 12345, .int .i64 12345])).run Tryz.prog W = .ok () (W.setCells g (i * 4) [.string ⟨#[90]⟩, .int .i64 5, .int .i64 12345, .int .i64 12345]) :=
  run_storeAt_mid (P := Tryz.prog) W g (i * 4) 38 #[.string ⟨#[90]⟩, .int .i64 5, .int .i64 12345, .int .i64 12345] (fun j hj => h j (by simpa using hj)) size44 (by simp [Value.oneCell'])
/-- a list of days is written over -/
structure Ow (a b : World) (g M : Nat) : Prop where
  os : b.os = a.os
  tape : b.tape = a.tape
  output : b.output = a.output
  size : b.heap.size = a.heap.size
  blk : ∀ q, q ≠ g → b.heap[q]? = a.heap[q]?
  th : ∀ k, k < M → b.there g (k * 4) 4
theorem Ow.step {a b : World} {g M : Nat} (h : Ow a b g M) (k : Nat) (vs : List Value) : Ow a (b.setCells g k vs) g M :=
  ⟨(setCells_rest g vs k b).1.trans h.os, (setCells_rest g vs k b).2.1.trans h.tape, (setCells_rest g vs k b).2.2.trans h.output, (setCells_size g vs k b).trans h.size, fun q hq => (setCells_far g hq vs k b).trans (h.blk q hq), fun j hj => World.there_setCells (h.th j hj) _ _ _⟩
theorem Ow.bel {a b : World} {g M B : Nat} {w : World} (h : Ow a b g M) (hb : Below B w a) (hg : B ≤ g) (hB : B ≤ w.heap.size) : Below B w b :=
  ⟨h.os.trans hb.os, h.tape.trans hb.tape, h.output.trans hb.output, by rw [h.size]; exact hb.size, fun q hq => (h.blk q (by omega)).trans (hb.block q hq)⟩
def totA (A : List ActV) (i : Nat) : Nat := ((A.take i).map fun a => mz a.R).sum
theorem totA_succ {A : List ActV} {i : Nat} (h : i < A.length) : totA A (i + 1) = totA A i + mz A[i].R := by
  unfold totA
  rw [List.take_succ_eq_append_getElem h, List.map_append, List.sum_append]
  simp only [List.map_cons, List.map_nil, List.sum_cons, List.sum_nil, Nat.add_zero]
theorem sum_take_le {α : Type} (f g : α → Nat) (h : ∀ x, f x ≤ g x) : ∀ (L : List α) (i : Nat), ((L.take i).map f).sum ≤ (L.map g).sum
  | [], i => by simp
  | x :: L, 0 => by simp
  | x :: L, i + 1 => by
    have := sum_take_le f g h L i
    have := h x
    simp only [List.take_succ_cons, List.map_cons, List.sum_cons]
    omega
theorem totA_le (A : List ActV) (i : Nat) : totA A i ≤ (A.map wAc).sum := sum_take_le _ _ (fun a => by rw [mz_rows]; unfold wAc; omega) A i
theorem mem_sum {α : Type} (f : α → Nat) : ∀ {L : List α} {x : α}, x ∈ L → f x ≤ (L.map f).sum
  | [], _, h => by cases h
  | y :: L, x, h => by
    simp only [List.map_cons, List.sum_cons]
    rcases List.mem_cons.1 h with rfl | h
    · omega
    · have := mem_sum f h
      omega
theorem tw_new {w6 w8 : World} (hR : Rd w8 (w6.heap.size + 1) (fun q => q = w6.heap.size + 1) []) (hb : Below (w6.heap.size + 1) (w6.alloc (.cells #[.map none] 80)) w8) : Tw w8 w6.heap.size (w6.heap.size + 1) (fun q => q = w6.heap.size ∨ q = w6.heap.size + 1) [] := by
  have hz : (w6.alloc (.cells #[.map none] 80)).heap.size = w6.heap.size + 1 := by simp
  refine ⟨⟨_, _, (Vq.new w6).below (by rw [hz]; exact hb), hR, fun k hk => .inl hk, fun k hk => .inr hk, fun k hk hs => ?_⟩, fun q hq => ?_⟩
  · omega
  · have h1 := hR.lt _ hR.sd
    rcases hq with rfl | rfl
    · omega
    · exact h1
end Go.Proofs.YtmgnlgobkkfjhaaGreatDoor.Kg
