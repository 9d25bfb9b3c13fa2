/- store: the iterator frames$1 (10). -/
import Derived.Test.YtpeebhddpmggdaaDoorScaA
namespace Go.Proofs.YtpeebhddpmggdaaDoor
open Go Go.RowKit Go.Shelf Go.ChangeShapes Go.WideShapes Go.ChangeAt
set_option linter.unusedVariables false
attribute [local go_sem] Oper.semAt_some
/-- a frame that is handed out: its place, its block, its length -/
structure Fr where
  at' : Nat
  blk : Nat
  len : Nat
  cap : Nat
  lo : 8 ≤ len
  hi : len ≤ cap
  sm : at' + len ≤ 9223372036854770000
def Fr.enc (x : Fr) : Array Value := #[.int .i64 (x.at' : Int), .slice (some ⟨x.blk, 0, none⟩) x.len x.cap]
def Fr.Shown (f : Nat → Nat) (n0 : Nat) (x : Fr) (W : World) : Prop := x.len = 8 + toldN (sh f x.at') ∧ W.ownsRow n0 5 1 (.slice (some ⟨x.blk, 0, none⟩) x.len x.cap) x.len (bcells (frB (sh f (x.at' + 8)) (x.len - 8)) x.len)
/-- frames one behind the other from the beginning on -/
inductive Pre (f : Nat → Nat) (n : Nat) : List Fr → Nat → Prop
  | nil : Pre f n [] 0
  | snoc {xs : List Fr} {o : Nat} {x : Fr} : Pre f n xs o → x.at' = o → x.len = 8 + toldN (sh f o) → Whole (sh f o) (n - o) → Pre f n (xs ++ [x]) (o + x.len)
theorem Pre.le {f : Nat → Nat} {n : Nat} {xs : List Fr} {o : Nat} (h : Pre f n xs o) : o ≤ n := by
  induction h with
  | nil => omega
  | snoc h h1 h2 h3 ih => have := h3.1; omega
/-- what a round keeps -/
structure Kp (n0 Bn : Nat) (W W' : World) : Prop where
  below : Below n0 W W'
  box : W'.heap[Bn]? = W.heap[Bn]?
  bytes : ∀ (q : Nat) (c : Array Value) (z : Nat × Nat), W.heap[q]? = some (Obj.cells c 5 z) → W'.heap[q]? = some (Obj.cells c 5 z)
theorem Kp.trans {n0 Bn : Nat} {A B C : World} (h : Kp n0 Bn A B) (k : Kp n0 Bn B C) : Kp n0 Bn A C := ⟨h.below.trans k.below, k.box.trans h.box, fun q c z hq => k.bytes q c z (h.bytes q c z hq)⟩
theorem shown_kept {f : Nat → Nat} {n0 : Nat} {x : Fr} {W W' : World} (h : x.Shown f n0 W) (hk : ∀ (q : Nat) (c : Array Value) (z : Nat × Nat), W.heap[q]? = some (Obj.cells c 5 z) → W'.heap[q]? = some (Obj.cells c 5 z)) : x.Shown f n0 W' := by
  refine ⟨h.1, h.2.1, h.2.2.imp id ?_⟩
  rintro ⟨g, cap, cur, h1, h2, h3, h4⟩
  exact ⟨g, cap, cur, h1, h2, hk _ _ _ h3, h4⟩
theorem grown_bytes {W W' : World} (h : W.grownBy W' none) : ∀ (q : Nat) (c : Array Value) (z : Nat × Nat), W.heap[q]? = some (Obj.cells c 5 z) → W'.heap[q]? = some (Obj.cells c 5 z) := fun q c z hq => (h.block q (Array.getElem?_eq_some_iff.1 hq).1 (by simp)).trans hq
theorem sh_sh (f : Nat → Nat) (a b : Nat) : sh (sh f a) b = sh f (a + b) := by
  funext i
  simp [sh, Nat.add_assoc]
theorem sh_zero (f : Nat → Nat) : sh f 0 = f := by
  funext i
  simp [sh]
/-- a slice's rest -/
theorem lies_drop {f : Nat → Nat} {b off n cap k : Nat} {W : World} (h : BLies f (.slice (some ⟨b, off, none⟩) n cap) n W) (hk : k ≤ n) (o c : Nat) (ho : n = k ∨ o = off + k) : BLies (sh f k) (.slice (some ⟨b, o, none⟩) (n - k) c) (n - k) W := by
  rcases h with ⟨_, h⟩ | ⟨b', off', cap', h1, h2, h3⟩
  · cases h
  · simp only [Value.slice.injEq, Option.some.injEq, Addr.mk.injEq, and_true, true_and] at h1
    obtain ⟨⟨rfl, rfl⟩, rfl⟩ := h1
    refine .inr ⟨b, o, c, rfl, fun h => h2 (by omega), fun j hj => ?_⟩
    rcases ho with h | h
    · omega
    · subst h
      have := h3 (k + j) (by omega)
      rw [← Nat.add_assoc] at this
      exact this
theorem lies_keep {f : Nat → Nat} {b off n cap n0 : Nat} {W W' : World} (h : BLies f (.slice (some ⟨b, off, none⟩) n cap) n W) (hb : 0 < n → b < n0) (hk : Below n0 W W') : BLies f (.slice (some ⟨b, off, none⟩) n cap) n W' := by
  rcases h with ⟨_, h⟩ | ⟨b', off', cap', h1, h2, h3⟩
  · cases h
  · simp only [Value.slice.injEq, Option.some.injEq, Addr.mk.injEq, and_true, true_and] at h1
    obtain ⟨⟨rfl, rfl⟩, rfl⟩ := h1
    exact .inr ⟨b, off, cap, rfl, fun h => Nat.lt_of_lt_of_le (h2 h) hk.size, fun k hk' => (hk.cell (p := ⟨b, off + k, none⟩) (hb (by omega))).trans (h3 k hk')⟩
theorem stp_keep {w w' : World} {n0 : Nat} (h : Stp w) (h0 : 0 < n0) (hb : Below n0 w w') : Stp w' := by
  unfold Stp Lib.TabIs World.var? at h ⊢
  rw [stp_no] at h ⊢
  simp only [Option.bind_some] at h ⊢
  rw [hb.block 0 h0]
  exact h
def EndS (f : Nat → Nat) (n n0 : Nat) (xs : List Fr) (W : World) : Prop := ∃ o, Pre f n xs o ∧ ¬ Whole (sh f o) (n - o) ∧ ∀ x ∈ xs, x.Shown f n0 W
set_option maxRecDepth 100000 in
set_option maxHeartbeats 4000000 in
theorem iter_some (f : Nat → Nat) (hf : ∀ k, f k < 256) (b off n cap : Nat) (hcap : n ≤ cap) (hn : n ≤ 9223372036854770000) (n0 Bn l : Nat) (J : List Fr → World → Prop) (W : World) (hBn : W.cell? ⟨Bn, 0, none⟩ = some (.slice (some ⟨b, off, none⟩) n cap))
    (hL : BLies f (.slice (some ⟨b, off, none⟩) n cap) n W) (hS : Stp W) (hbn : 0 < n → b < n0) (hn0 : n0 ≤ W.heap.size) (hg0 : 0 < n0)
    (hJ : ∀ xs A B, J xs A → A.grownBy B none → J xs B)
    (hY : ∀ pre x W1, J pre W1 → (x.Shown f n0 W1 ∧ Pre f n (pre ++ [x]) (x.at' + x.len)) → YieldAt Fence.wide 1 Tryd.prog l x.enc W1 fun e W2 => e = .returned (.bool true) ∧ J (pre ++ [x]) W2 ∧ Kp n0 Bn W1 W2) (h0 : J [] W) :
    CallsIn Fence.wide 2 Tryd.prog 10 (#[.func (.yield l) #[] #[]] ++ #[.pointer (some ⟨Bn, 0, none⟩)]) W fun e W2 => (∃ v, e = .returned v) ∧ ∃ xs, EndS f n n0 xs W2 ∧ J xs W2 := by
  refine callsIn_of_wp Tryd.func10 rfl trivial ?_ rfl
  simp only [Tryd.ntmps10, List.size_toArray, List.length_cons, List.length_nil, Nat.reduceAdd, Nat.reduceSub, Array.replicate_succ, Array.replicate_zero, List.push_toArray, List.append_toArray, List.nil_append, List.cons_append]
  have HF := hide hf
  have HY := hide hY
  have HJ := hide hJ
  clear hf hY hJ
  gi_wp2
  gi_loopw [3] (fun v wr => ∃ (xs : List Fr) (o : Nat), v = .int .i64 (o : Int) ∧ Pre f n xs o ∧ J xs wr ∧ (∀ x ∈ xs, x.Shown f n0 wr) ∧ wr.cell? ⟨Bn, 0, none⟩ = some (.slice (some ⟨b, off, none⟩) n cap) ∧ BLies f (.slice (some ⟨b, off, none⟩) n cap) n wr ∧ Stp wr ∧ n0 ≤ wr.heap.size) (fun v _ => n - (intOf v).toNat)
  case atStart => exact ⟨[], 0, rfl, .nil, h0, fun x hx => (by cases hx), hBn, hL, hS, hn0⟩
  case round =>
    obtain ⟨xs, o, rfl, hp, hj, hsh, hbox, hlies, hst, hz⟩ := hrel
    have hle := hp.le
    have i1 : (0 : Int) ≤ (o : Int) := by omega
    have i2 : (o : Int) ≤ (n : Int) := by omega
    have i3 : (o : Int) ≤ (cap : Int) := by omega
    have HP := hide hp; have HJ0 := hide hj; have HSH := hide hsh; have HLI := hide hlies; have HST := hide hst; have HBX := hide hbox
    clear hp hj hsh hlies hst
    gi_wp2_with fail
    · -- nothing is left
      have hno : Hid (¬ Whole (sh f o) (n - o)) := fun h => by have := h.1; omega
      refine ⟨trivial, ?_⟩
      refine (callsIn_wide.2 (first_short (sh f o) _ (n - o) 0 (by omega) wr)).mono ?_
      rintro e w1 ⟨hr, hb⟩
      rcases hr with ⟨hW, _⟩ | ⟨hW, v, rfl⟩
      · exact absurd hW (unhide hno)
      have B1 := hide hb
      clear hb hW
      gi_wp2_with fail
      refine ⟨fun _ h => (by cases h), ?_⟩
      gi_wp2
      refine bodyPost_ret (results_none rfl _ _ _) rfl ?_
      exact ⟨⟨_, rfl⟩, xs, ⟨o, unhide HP, unhide hno, fun x hx => shown_kept (unhide HSH x hx) (grown_bytes (grown_of_below (unhide B1)))⟩, unhide HJ xs wr w1 (unhide HJ0) (grown_of_below (unhide B1))⟩
    · refine ⟨trivial, ?_⟩
      refine (callsIn_wide.2 (first_any (sh f o) (fun k => unhide HF _) _ (n - o) (cap - o) (by omega) (by omega) wr (lies_drop (unhide HLI) hle _ _ (.inr rfl)) (unhide HST))).mono ?_
      rintro e w1 ⟨hr, hb⟩
      rcases hr with ⟨hW, v, rfl, hv⟩ | ⟨hW, v, rfl⟩
      · obtain ⟨gq, cq, rfl⟩ := own_open hv (by omega)
        have hW1 := hW.1
        have hW2 := hW.2.1
        have hcq : 8 + toldN (sh f o) ≤ cq := by
          rcases hv.2 with ⟨h, _⟩ | ⟨_, _, _, h, _, _, h2, _⟩
          · cases h
          · injection h with _ _ h
            subst h
            exact h2
        obtain ⟨x, hxe⟩ : ∃ x : Fr, x = ⟨o, gq, 8 + toldN (sh f o), cq, by omega, hcq, by omega⟩ := ⟨_, rfl⟩
        have hx1 : x.Shown f n0 w1 := by
          rw [hxe]
          refine ⟨rfl, ?_⟩
          have e1 : 8 + toldN (sh f o) - 8 = toldN (sh f o) := by omega
          show w1.ownsRow n0 5 1 (.slice (some ⟨gq, 0, none⟩) (8 + toldN (sh f o)) cq) (8 + toldN (sh f o)) (bcells (frB (sh f (o + 8)) (8 + toldN (sh f o) - 8)) (8 + toldN (sh f o)))
          rw [e1, ← sh_sh]
          exact own_base hv hz
        have hpx : Pre f n (xs ++ [x]) (x.at' + x.len) := by
          have h := Pre.snoc (x := x) (unhide HP) (by rw [hxe]) (by rw [hxe]) hW
          have ha : x.at' = o := by rw [hxe]
          rw [ha]
          exact h
        obtain ⟨fn, tmps, assign, body, hy, hR⟩ := unhide HY xs x w1 (unhide HJ xs wr w1 (unhide HJ0) (grown_of_below hb)) ⟨hx1, hpx⟩
        have hen : x.enc = #[.int .i64 (o : Int), .slice (some ⟨gq, 0, none⟩) (8 + toldN (sh f o)) cq] := by rw [hxe]; rfl
        rw [hen] at hy
        have HX1 := hide hx1; have HW := hide hW; have HB := hide hb; have HXE := hide hxe; have HR := hide hR
        obtain ⟨t, ht⟩ : ∃ t, toldN (sh f o) = t := ⟨_, rfl⟩
        have HT := hide ht
        rw [ht] at hy hW1 hW2 hcq ⊢
        clear hen hx1 hW hb hxe hv hR ht hpx
        gi_wp2_with fail
        refine (unhide HR).mono ?_
        rintro e W3 ⟨rfl, hJ3, hk3⟩
        have J3 := hide hJ3; have K3 := hide hk3
        have hzW : wr.heap.size ≤ W3.heap.size := Nat.le_trans (unhide HB).size hk3.below.size
        clear hJ3 hk3
        gi_wp2_with fail
        refine ⟨⟨xs ++ [x], o + (8 + t), by go_num, ?_, unhide J3, ?_, ?_, ?_, ?_, by omega⟩, by simp [intOf]; omega⟩
        · have h := Pre.snoc (x := x) (unhide HP) (by rw [unhide HXE]) (by rw [unhide HXE]) (unhide HW)
          have hl : x.len = 8 + t := by
            rw [unhide HXE]
            show 8 + toldN (sh f o) = 8 + t
            rw [unhide HT]
          rw [hl] at h
          exact h
        · intro y hy'
          rcases List.mem_append.1 hy' with h | h
          · exact shown_kept (unhide HSH y h) (fun q c z hq => (unhide K3).bytes q c z (grown_bytes (grown_of_below (unhide HB)) q c z hq))
          · simp at h
            subst h
            exact shown_kept (unhide HX1) (unhide K3).bytes
        · have hlt : Bn < wr.heap.size := World.block_lt_of_cell? wr ⟨Bn, 0, none⟩ (unhide HBX)
          exact (World.cell?_of_block (a := ⟨Bn, 0, none⟩) ((unhide K3).box.trans ((unhide HB).block Bn hlt))).trans (unhide HBX)
        · exact lies_keep ((unhide HLI).below (unhide HB)) hbn (unhide K3).below
        · exact stp_keep ((unhide HST).below (unhide HB)) hg0 (unhide K3).below
      · have HB := hide hb
        have HW := hide hW
        clear hb hW
        gi_wp2_with fail
        refine ⟨fun _ h => (by cases h), ?_⟩
        gi_wp2
        refine bodyPost_ret (results_none rfl _ _ _) rfl ?_
        exact ⟨⟨_, rfl⟩, xs, ⟨o, unhide HP, unhide HW, fun x hx => shown_kept (unhide HSH x hx) (grown_bytes (grown_of_below (unhide HB)))⟩, unhide HJ xs wr w1 (unhide HJ0) (grown_of_below (unhide HB))⟩
set_option maxRecDepth 100000 in
set_option maxHeartbeats 4000000 in
theorem iter_none (f : Nat → Nat) (n0 Bn l : Nat) (J : List Fr → World → Prop) (W : World) (hBn : W.cell? ⟨Bn, 0, none⟩ = some (.slice none 0 0)) (hJ : ∀ xs A B, J xs A → A.grownBy B none → J xs B) (h0 : J [] W) :
    CallsIn Fence.wide 2 Tryd.prog 10 (#[.func (.yield l) #[] #[]] ++ #[.pointer (some ⟨Bn, 0, none⟩)]) W fun e W2 => (∃ v, e = .returned v) ∧ ∃ xs, EndS f 0 n0 xs W2 ∧ J xs W2 := by
  refine callsIn_of_wp Tryd.func10 rfl trivial ?_ rfl
  simp only [Tryd.ntmps10, List.size_toArray, List.length_cons, List.length_nil, Nat.reduceAdd, Nat.reduceSub, Array.replicate_succ, Array.replicate_zero, List.push_toArray, List.append_toArray, List.nil_append, List.cons_append]
  have HJ := hide hJ
  have H0 := hide h0
  clear hJ h0
  gi_wp2
  gi_loopw [3] (fun v wr => v = .int .i64 0 ∧ wr = W) (fun v _ => 0)
  case atStart => exact ⟨rfl, rfl⟩
  case round =>
    obtain ⟨rfl, rfl⟩ := hrel
    have hno : Hid (¬ Whole (sh f 0) (0 - 0)) := fun h => by have := h.1; omega
    gi_wp2_with fail
    refine ⟨trivial, ?_⟩
    refine (callsIn_wide.2 (first_short (sh f 0) none 0 0 (by omega) wr)).mono ?_
    rintro e w1 ⟨hr, hb⟩
    rcases hr with ⟨hW, _⟩ | ⟨hW, v, rfl⟩
    · exact absurd hW (unhide hno)
    have B1 := hide hb
    clear hb hW
    gi_wp2_with fail
    refine ⟨fun _ h => (by cases h), ?_⟩
    gi_wp2
    refine bodyPost_ret (results_none rfl _ _ _) rfl ?_
    exact ⟨⟨_, rfl⟩, [], ⟨0, .nil, unhide hno, fun x hx => (by cases hx)⟩, unhide HJ [] wr w1 (unhide H0) (grown_of_below (unhide B1))⟩
/-- frames (9): the list is boxed; the function captures the box -/
theorem frames_in (v : Value) (hv : v.oneCell' = true) (w : World) : CallsIn Fence.wide 2 Tryd.prog 9 #[v] w fun e w' => e = .returned (.func (.func 10) #[] #[.pointer (some ⟨w.heap.size, 0, none⟩)]) ∧ w' = w.alloc (.cells #[v] 23) := by
  refine callsIn_of_wp Tryd.func9 rfl trivial ?_ rfl
  simp only [Tryd.ntmps9, List.size_toArray, List.length_cons, List.length_nil, Nat.reduceAdd, Nat.reduceSub, Array.replicate_succ, Array.replicate_zero, List.push_toArray, List.append_toArray, List.nil_append, List.cons_append]
  gi_wp2
  go_ret
  exact ⟨rfl, rfl⟩
end Go.Proofs.YtpeebhddpmggdaaDoor
