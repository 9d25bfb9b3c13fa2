/- acts (10): Append, Crash, and what is none of the calls. -/
import Derived.Test.YtpeohbkigkfcgaaDkS
namespace Go.Proofs.Ytpeohbkigkfcgaa
open Go Go.Shelf Go.ChangeShapes Go.WideShapes Go.ChangeAt Go.RowKit Go.Maps Go.Sort
set_option linter.unusedVariables false
/-- bytes that lie somewhere, at whatever place where there are none -/
def BytesIn (W : World) (u : Value) (bs : List UInt8) : Prop :=
  (u = .slice none 0 0 ∧ bs = []) ∨ ∃ a c, u = .slice (some a) bs.length c ∧ ∀ j u, (bcs bs)[j]? = some u → W.cell? (a.add j) = some u
theorem BytesIn.below {W W' : World} {u : Value} {bs : List UInt8} (h : BytesIn W u bs) (hb : Below W.heap.size W W') : BytesIn W' u bs := by
  rcases h with h | ⟨a, c, rfl, h⟩
  · exact .inl h
  · refine .inr ⟨a, c, rfl, fun j u hj => ?_⟩
    have h1 := h j u hj
    exact (hb.cell (p := a.add j) (World.block_lt_of_cell? W _ h1)).trans h1
theorem run_append_in (w : World) (ty : TypeId) (v : Value) (bs : List UInt8) (hown : w.ownsRow 0 5 1 v bs.length (bcs bs)) (u : Value) (b2 : List UInt8) (hu : BytesIn w u b2) (hb : bs.length + b2.length ≤ 140737488351232) :
    ∃ p c w', (Builtin.append_ #[27, 27] ty #[v, u]).run Try.prog w = .ok (.slice p (bs ++ b2).length c) w' ∧ w'.ownsRow 0 5 1 (.slice p (bs ++ b2).length c) (bs ++ b2).length (bcs (bs ++ b2)) ∧ w'.ownsRow 0 5 1 v bs.length (bcs bs) ∧
      (((Value.slice p (bs ++ b2).length c).ownBlock = v.ownBlock ∧ w.grownBy w' v.ownBlock) ∨ ((Value.slice p (bs ++ b2).length c).ownBlock = some w.heap.size ∧ w.grownBy w' none)) := by
  obtain ⟨i, hi, hz, hsize, hby⟩ := info_parts info5
  rcases hu with ⟨rfl, rfl⟩ | ⟨a, c, rfl, hnews⟩
  · have hr := run_append_owned_none (P := Try.prog) (w := w) 0 27 ty 5 i 1 Try.underlying27 hi v bs.length _ hown
    have hv : ∃ p c, v = .slice p bs.length c := by
      rcases hown.2 with ⟨h1, h2⟩ | ⟨g, cap, cur, rfl, _⟩
      · exact ⟨none, 0, by rw [h1, h2]⟩
      · exact ⟨_, _, rfl⟩
    obtain ⟨p, c, rfl⟩ := hv
    rw [List.append_nil]
    exact ⟨p, c, w, hr, hown, hown, .inl ⟨rfl, ⟨rfl, rfl, rfl, Nat.le_refl _, fun _ _ _ => rfl⟩⟩⟩
  · rw [List.length_append, bcs_append]
    obtain ⟨v', w', hr, ho, hg, hnil, hat⟩ := run_append_own_at (P := Try.prog) w 0 27 ty 5 i (.int .u8 0) 1 1 Try.underlying27 hi hz hsize hby rfl (by decide) v bs.length _ hown a b2.length c (bcs b2) (by rw [bcs_len]; omega) hnews (bcs_one _) (by unfold maxLen; omega) (by omega) (by omega)
    have hv : ∃ p c, v' = .slice p (bs.length + b2.length) c := by
      rcases ho.2 with ⟨h1, h2⟩ | ⟨g, cap, cur, rfl, _⟩
      · exact ⟨none, 0, by rw [h1, h2]⟩
      · exact ⟨_, _, rfl⟩
    obtain ⟨p', c', rfl⟩ := hv
    rcases hown.2 with ⟨rfl, h0⟩ | ⟨g0, cap0, cur, rfl, hb0, hcur, hnc, hcm, hcs, htake⟩
    · refine ⟨p', c', w', hr, ho, ?_, hat.imp (fun h => ⟨h, hg⟩) (fun h => ⟨h, hg⟩)⟩
      have : bs = [] := List.eq_nil_of_length_eq_zero h0
      subst this
      exact World.ownsRow_nil _ _ _ _
    · by_cases hf : bs.length + b2.length ≤ cap0
      · obtain ⟨w2, hr3, ho3, hg3⟩ := run_append_fits (P := Try.prog) w 0 27 ty 5 i 1 Try.underlying27 hi hsize g0 bs.length cap0 _ hown a b2.length c (bcs b2) (by rw [bcs_len]; omega) hnews (bcs_one _) hf
        exact ⟨_, _, w2, hr3, ho3, row_cut (bcs_len bs) ho3, .inl ⟨rfl, hg3⟩⟩
      · have hr2 := run_append_grow (P := Try.prog) w 27 ty 5 i (.int .u8 0) Try.underlying27 hi hz ⟨g0, 0, none⟩ bs.length cap0 (bcs bs) (by rw [hsize, bcs_len]; omega) (hown.cells (g := g0) rfl) a b2.length c (bcs b2) (by rw [hsize, bcs_len]; omega) hnews (by omega) (by omega) (by rw [hby]; exact growslice_fits (by omega) (by omega))
        have hr4 := hr
        rw [hr2] at hr4
        injection hr4 with e1 e2
        have hg2 : w.grownBy w' none := by
          rw [← e2]
          exact ⟨rfl, rfl, rfl, by simp, fun k hk _ => Below.heap_alloc _ _ _ hk⟩
        refine ⟨p', c', w', hr, ho, own_below hown (below_of_grown hg2), .inr ⟨?_, hg2⟩⟩
        rw [← e1]
        rfl
theorem wpList_append_in {w : World} {ops : Array Oper} {rest : List Oper} {o : Oper} {a : Act} {Q : Exit → Act → World → Prop} (hgd : o.guard = none) (s x : Operand)
    (ho : o.op = .call { callee := .builtin .append, args := #[s, x], argTypes := #[27, 27] })
    (v : Value) (bs : List UInt8) (hs : a.eval s = v) (hown : w.ownsRow 0 5 1 v bs.length (bcs bs)) (u : Value) (b2 : List UInt8) (hx : a.eval x = u) (hu : BytesIn w u b2) (hb : bs.length + b2.length ≤ 140737488351232) (b3 : List UInt8) (hb3 : b3 = bs ++ b2)
    (h : ∀ p c w', w'.ownsRow 0 5 1 (.slice p b3.length c) b3.length (bcs b3) → w'.ownsRow 0 5 1 v bs.length (bcs bs) → (((Value.slice p b3.length c).ownBlock = v.ownBlock ∧ w.grownBy w' v.ownBlock) ∨ ((Value.slice p b3.length c).ownBlock = some w.heap.size ∧ w.grownBy w' none)) → wpList Try.prog ops Q rest (a.put o.dst (.slice p b3.length c)) w') :
    wpList Try.prog ops Q (o :: rest) a w := by
  subst hb3
  refine wpList_plain hgd fun K hK => ?_
  obtain ⟨p, c, w', hr, h2, h3, h4⟩ := run_append_in w o.type v bs hown u b2 hu hb
  unfold Oper.wp execOp
  simp only [ho, resolve, invoke, builtin, Sem.run_bind, Sem.run_pure, Result.andThen_ok, List.map_toArray, List.map_cons, List.map_nil, hs, hx, hr]
  exact hK _ _ (h p c w' h2 h3 h4)
set_option maxRecDepth 100000 in
set_option maxHeartbeats 4000000 in
theorem acts4 {w : World} {d N : Nat} {K : Dk} {S : Nat → Prop} (h : DiskOK w d N K S) (hN : N < 800000) (hI : Inv K) (o : OpV) (dk at0 : Int) (pb : Option Addr) (cb : Nat) (pk : Option Addr) (ck : Nat) (c1 f1 : Int) (pf : Option Addr) (lf cf : Nat) (b1 : Bool) (h3 : o.kind = 4) (hbl : o.bs.length ≤ 140737488351232) (hu : BytesIn w (.slice pb o.bs.length cb) o.bs) (hnm : o.nm.size ≤ 9223372036854775806) (hto : o.to.size ≤ 9223372036854775806) :
    Calls Try.prog 10 #[.pointer (some ⟨d, 0, none⟩), opV o dk at0 pb cb pk ck c1 pf lf cf f1 b1] w fun e w' => e = .returned (.int .i64 (actK o K).2) ∧ ∃ S', DiskOK w' d (N + 64) (actK o K).1 S' ∧ Sep w w' S S' := by
  obtain ⟨kind, nm, to, bs, n, ks⟩ := o
  simp only at h3 hnm hto hbl hu
  unfold opV
  dsimp only
  have HD := hide h
  have hfu := hI.fu1
  have HI := hide hI
  have HU := hide hu
  have hcap1 := hI.cap1
  have htot := hI.tot
  clear h hI hu
  subst h3
  obtain ⟨R, hR⟩ : ∃ R, R = chgK K (erA (prS nm) bs K) (appA (prS nm) bs K) := ⟨_, rfl⟩
  have hA : actK ⟨4, nm, to, bs, n, ks⟩ K = R := by rw [hR]; unfold actK; simp
  rw [hA]
  clear hA
  have hnum : 0 ≤ R.2 ∧ R.2 ≤ 1000 := by rw [hR]; exact chg_num (erA_num _ _ _).1 (erA_num _ _ _).2
  have HR := hide hR
  clear hR
  obtain ⟨hn0, hn1⟩ := hnum
  obtain ⟨w1, hw1⟩ : ∃ w1, w1 = w.alloc (.cells #[.int .i64 dk, .int .i64 4, .string nm, .string to, .slice pb bs.length cb, .int .i64 at0, .int .i64 n, .slice pk ks.length ck, .int .i64 c1, .slice pf lf cf, .int .i64 f1, .bool b1] 33) := ⟨_, rfl⟩
  have hb1 : Below w.heap.size w w1 := by rw [hw1]; exact bal (Below.refl _ _) _
  have hz1 : w1.heap.size = w.heap.size + 1 := by rw [hw1]; simp
  have q1 : w1.cell? ⟨w.heap.size, 1, none⟩ = some (.int .i64 4) := by rw [hw1, World.cell?_alloc_mark]; rfl
  have q2 : w1.cell? ⟨w.heap.size, 2, none⟩ = some (.string nm) := by rw [hw1, World.cell?_alloc_mark]; rfl
  have q3 : w1.cell? ⟨w.heap.size, 3, none⟩ = some (.string to) := by rw [hw1, World.cell?_alloc_mark]; rfl
  have q4 : w1.cell? ⟨w.heap.size, 4, none⟩ = some (.slice pb bs.length cb) := by rw [hw1, World.cell?_alloc_mark]; rfl
  have q6 : w1.cell? ⟨w.heap.size, 6, none⟩ = some (.int .i64 n) := by rw [hw1, World.cell?_alloc_mark]; rfl
  have H1 := hide hw1
  clear hw1
  go_enter Try.func10, Try.ntmps10
  go_wp2_with fail
  rw [← unhide H1]
  refine (pressed_ok nm hnm w1).mono ?_
  rintro e w2 ⟨rfl, hb2⟩
  have hz2 := hb2.size
  have t1 := keep1 hb2 (by omega) q1
  have t3 := keep1 hb2 (by omega) q3
  have t6 := keep1 hb2 (by omega) q6
  have t4 := keep1 hb2 (by omega) q4
  have B2 : Hid (Below w.heap.size w w2) := hb1.trans (hb2.mono (by omega))
  clear q1 q2 q3 q4 q6 hb1 hb2
  go_wp2_with fail
  refine (pressed_ok to hto w2).mono ?_
  rintro e w3 ⟨rfl, hb3⟩
  have hz3 := hb3.size
  have u1 := keep1 hb3 (by omega) t1
  have u6 := keep1 hb3 (by omega) t6
  have u4 := keep1 hb3 (by omega) t4
  have B3 : Hid (Below w.heap.size w w3) := (unhide B2).trans (hb3.mono (by omega))
  clear t1 t3 t4 t6 hb3 B2
  obtain ⟨mo, m0, es, hD⟩ := (unhide HD).below (unhide B3)
  have HD3 := hide hD
  clear hD
  have ua := fun o => keep1 (bal (Below.refl w3.heap.size w3) o) (World.block_lt_of_cell? w3 _ u4) u4
  have U3 := hide (((unhide HU).below (unhide B3)).below (bal (Below.refl w3.heap.size w3) (.cells #[] 5)))
  have hdl := (unhide HD3).at'.lt
  go_wp2_with (first | (at_builtin; refine wpList_append_in rfl _ _ rfl (.slice (some ⟨w3.heap.size, 0, none⟩) 0 0) [] rfl (row_none w3) _ bs rfl (unhide U3) (by simp; omega) bs rfl ?_; intro p4 c4 w4 r1 r2 hg; have R1 := hide r1; have HG := hide hg; clear r1 r2 hg))
  have hb4 : Below w3.heap.size w3 w4 := by
    have h0 : Below w3.heap.size w3 (w3.alloc (.cells #[] 5)) := bal (Below.refl _ _) _
    refine h0.trans ?_
    rcases unhide HG with ⟨_, h2⟩ | ⟨_, h2⟩
    · exact ⟨h2.os, h2.tape, h2.output, h2.size, fun k hk => h2.block k (by simp; omega) (by simp [Value.ownBlock]; omega)⟩
    · exact ⟨h2.os, h2.tape, h2.output, h2.size, fun k hk => h2.block k (by simp; omega) (by simp)⟩
  have hne : ∀ q, (Value.slice p4 bs.length c4).ownBlock = some q → q ≠ d := fun q hq => by
    rcases unhide HG with ⟨h1, _⟩ | ⟨h1, _⟩
    · rw [h1] at hq
      simp only [Value.ownBlock, Option.some.injEq] at hq
      omega
    · rw [h1] at hq
      simp only [Option.some.injEq, World.size_alloc] at hq
      omega
  have B4 : Hid (Below w.heap.size w w4) := (unhide B3).trans (hb4.mono (by omega))
  refine (append_ok ((unhide HD3).below hb4) (by omega) (by omega) hcap1 (by omega) (by omega) (prS nm) (prS_size nm) p4 c4 bs (BytesAt.of_row (unhide R1)) hne).mono ?_
  rintro e w5 ⟨rfl, hres⟩
  rw [← unhide HR] at hres ⊢
  obtain ⟨S2, hr1, hr2⟩ := hres
  have HR1 := hide hr1; have HR2 := hide hr2
  clear hr1 hr2 hb4 hne
  go_wp2_with fail
  refine (num_ok R.2 w5 hn0 hn1).mono ?_
  rintro e w6 ⟨rfl, hw⟩
  rw [hw]
  clear hw w6
  go_wp2_with fail
  go_ret
  exact ⟨rfl, S2, DiskOK.more (unhide HR1) (by omega), (Sep.of_below S (unhide B4)).trans (unhide HR2)⟩
def kcs (ks : List Int) : List Value := ks.map fun k => .int .i64 k
/-- whole numbers that lie somewhere, at whatever place where there are none -/
def KsIn (W : World) (u : Value) (ks : List Int) : Prop :=
  (u = .slice none 0 0 ∧ ks = []) ∨ ∃ a c, u = .slice (some a) ks.length c ∧ ∀ j u, (kcs ks)[j]? = some u → W.cell? (a.add j) = some u
theorem KsIn.below {W W' : World} {u : Value} {ks : List Int} (h : KsIn W u ks) (hb : Below W.heap.size W W') : KsIn W' u ks := by
  rcases h with h | ⟨a, c, rfl, h⟩
  · exact .inl h
  · refine .inr ⟨a, c, rfl, fun j u hj => ?_⟩
    have h1 := h j u hj
    exact (hb.cell (p := a.add j) (World.block_lt_of_cell? W _ h1)).trans h1
theorem kcs_one (ks : List Int) : ∀ u ∈ kcs ks, u.oneCell' = true := by
  intro u hu
  simp only [kcs, List.mem_map] at hu
  obtain ⟨k, _, rfl⟩ := hu
  rfl
theorem row_none3 (w : World) : (w.alloc (.cells #[] 3)).ownsRow w.heap.size 3 1 (.slice (some ⟨w.heap.size, 0, none⟩) 0 0) 0 [] :=
  ⟨rfl, .inr ⟨w.heap.size, 0, #[], rfl, Nat.le_refl _, heap_alloc_new w _, Nat.le_refl _, by unfold maxLen; omega, rfl, rfl⟩⟩
/-- whole numbers appended to an empty list of one's own -/
theorem wpList_append_k {W : World} {ops : Array Oper} {rest : List Oper} {o : Oper} {a : Act} {Q : Exit → Act → World → Prop} (hgd : o.guard = none) (s x : Operand)
    (ho : o.op = .call { callee := .builtin .append, args := #[s, x], argTypes := #[28, 28] })
    (w : World) (hs : a.eval s = .slice (some ⟨w.heap.size, 0, none⟩) 0 0) (u : Value) (ks : List Int) (hx : a.eval x = u) (hu : KsIn (w.alloc (.cells #[] 3)) u ks) (hb : ks.length ≤ 17592186043904)
    (h : ∀ p c w', KsAt w' (.slice p ks.length c) ks → Below w.heap.size w w' → (∀ q, (Value.slice p ks.length c).ownBlock = some q → w.heap.size ≤ q) → wpList Try.prog ops Q rest (a.put o.dst (.slice p ks.length c)) w') (hW : W = w.alloc (.cells #[] 3) := by rfl) :
    wpList Try.prog ops Q (o :: rest) a W := by
  subst hW
  obtain ⟨i0, hi, hz0, hz1, hz2⟩ := info_parts info3
  have h0 : Below w.heap.size w (w.alloc (.cells #[] 3)) := bal (Below.refl _ _) _
  rcases hu with ⟨rfl, rfl⟩ | ⟨a0, cap, rfl, h2⟩
  · exact wpList_append_own_none hgd s x 28 ho w.heap.size 3 i0 1 Try.underlying28 hi _ 0 [] hs (row_none3 w) hx (h _ _ _ (.inr ⟨w.heap.size, 0, 0, rfl, fun i k hi => by simp at hi⟩) h0 (fun q hq => by simp only [Value.ownBlock, Option.some.injEq] at hq; omega))
  · refine wpList_append_own_at _ hgd s x 28 ho w.heap.size 3 i0 (.int .i64 0) 1 8 Try.underlying28 hi hz0 hz1 hz2 rfl (by decide) _ 0 [] hs (row_none3 w) a0 ks.length cap (kcs ks) hx (by simp [kcs]) h2 (kcs_one _) (by unfold maxLen; omega) (by omega) (by simp) (fun v' w' h4 h5 _ h6 => ?_)
    · rw [Nat.zero_add, List.nil_append] at h4
      have hv : ∃ p c, v' = .slice p ks.length c := by
        rcases h4.2 with ⟨h7, h8⟩ | ⟨g, cap, cur, rfl, _⟩
        · exact ⟨none, 0, by rw [h7, h8]⟩
        · exact ⟨_, _, rfl⟩
      obtain ⟨p, c, rfl⟩ := hv
      refine h p c w' ?_ (h0.trans ⟨h5.os, h5.tape, h5.output, h5.size, fun k hk => h5.block k (by simp; omega) (by simp [Value.ownBlock]; omega)⟩) (fun q hq => (h4.lt q hq).1)
      rcases h4.2 with ⟨h7, h8⟩ | ⟨g, cap', cur, h7, _⟩
      · injection h7 with h7 _ h7c
        subst h7 h7c
        exact .inl ⟨by rw [h8], List.eq_nil_of_length_eq_zero h8⟩
      · injection h7 with h7 _ h7c
        subst h7 h7c
        refine .inr ⟨g, 0, _, rfl, fun i k hi => ?_⟩
        have := h4.cells (g := g) rfl i (.int .i64 k) (by unfold kcs; rw [List.getElem?_map, hi]; rfl)
        rw [Addr.add_mid] at this
        exact this
set_option maxRecDepth 100000 in
set_option maxHeartbeats 4000000 in
theorem acts14 {w : World} {d N : Nat} {K : Dk} {S : Nat → Prop} (h : DiskOK w d N K S) (hN : N < 800000) (hI : Inv K) (o : OpV) (dk at0 : Int) (pb : Option Addr) (cb : Nat) (pk : Option Addr) (ck : Nat) (c1 f1 : Int) (pf : Option Addr) (lf cf : Nat) (b1 : Bool) (h3 : o.kind = 14) (hbl : o.ks.length ≤ 17592186043904) (hu : KsIn w (.slice pk o.ks.length ck) o.ks) (hnm : o.nm.size ≤ 9223372036854775806) (hto : o.to.size ≤ 9223372036854775806) :
    Calls Try.prog 10 #[.pointer (some ⟨d, 0, none⟩), opV o dk at0 pb cb pk ck c1 pf lf cf f1 b1] w fun e w' => e = .returned (.int .i64 (actK o K).2) ∧ ∃ S', DiskOK w' d (N + 64) (actK o K).1 S' ∧ Sep w w' S S' := by
  obtain ⟨kind, nm, to, bs, n, ks⟩ := o
  simp only at h3 hnm hto hbl hu
  unfold opV
  dsimp only
  have HD := hide h
  have hfu := hI.fu1
  have HI := hide hI
  have HU := hide hu
  have hcap1 := hI.cap1
  have htot := hI.tot
  clear h hI hu
  subst h3
  obtain ⟨R, hR⟩ : ∃ R, R = ((crashK ks K, 0) : Dk × Int) := ⟨_, rfl⟩
  have hA : actK ⟨14, nm, to, bs, n, ks⟩ K = R := by rw [hR]; unfold actK; simp
  rw [hA]
  clear hA
  have hnum : 0 ≤ R.2 ∧ R.2 ≤ 1000 := by rw [hR]; simp
  have HR := hide hR
  clear hR
  obtain ⟨hn0, hn1⟩ := hnum
  obtain ⟨w1, hw1⟩ : ∃ w1, w1 = w.alloc (.cells #[.int .i64 dk, .int .i64 14, .string nm, .string to, .slice pb bs.length cb, .int .i64 at0, .int .i64 n, .slice pk ks.length ck, .int .i64 c1, .slice pf lf cf, .int .i64 f1, .bool b1] 33) := ⟨_, rfl⟩
  have hb1 : Below w.heap.size w w1 := by rw [hw1]; exact bal (Below.refl _ _) _
  have hz1 : w1.heap.size = w.heap.size + 1 := by rw [hw1]; simp
  have q1 : w1.cell? ⟨w.heap.size, 1, none⟩ = some (.int .i64 14) := by rw [hw1, World.cell?_alloc_mark]; rfl
  have q2 : w1.cell? ⟨w.heap.size, 2, none⟩ = some (.string nm) := by rw [hw1, World.cell?_alloc_mark]; rfl
  have q3 : w1.cell? ⟨w.heap.size, 3, none⟩ = some (.string to) := by rw [hw1, World.cell?_alloc_mark]; rfl
  have q4 : w1.cell? ⟨w.heap.size, 7, none⟩ = some (.slice pk ks.length ck) := by rw [hw1, World.cell?_alloc_mark]; rfl
  have q6 : w1.cell? ⟨w.heap.size, 6, none⟩ = some (.int .i64 n) := by rw [hw1, World.cell?_alloc_mark]; rfl
  have H1 := hide hw1
  clear hw1
  go_enter Try.func10, Try.ntmps10
  go_wp2_with fail
  rw [← unhide H1]
  refine (pressed_ok nm hnm w1).mono ?_
  rintro e w2 ⟨rfl, hb2⟩
  have hz2 := hb2.size
  have t1 := keep1 hb2 (by omega) q1
  have t3 := keep1 hb2 (by omega) q3
  have t6 := keep1 hb2 (by omega) q6
  have t4 := keep1 hb2 (by omega) q4
  have B2 : Hid (Below w.heap.size w w2) := hb1.trans (hb2.mono (by omega))
  clear q1 q2 q3 q4 q6 hb1 hb2
  go_wp2_with fail
  refine (pressed_ok to hto w2).mono ?_
  rintro e w3 ⟨rfl, hb3⟩
  have hz3 := hb3.size
  have u1 := keep1 hb3 (by omega) t1
  have u6 := keep1 hb3 (by omega) t6
  have u4 := keep1 hb3 (by omega) t4
  have B3 : Hid (Below w.heap.size w w3) := (unhide B2).trans (hb3.mono (by omega))
  clear t1 t3 t4 t6 hb3 B2
  obtain ⟨mo, m0, es, hD⟩ := (unhide HD).below (unhide B3)
  have HD3 := hide hD
  clear hD
  have ua := fun o => keep1 (bal (Below.refl w3.heap.size w3) o) (World.block_lt_of_cell? w3 _ u4) u4
  have hdl := (unhide HD3).at'.lt
  have U3 := hide (((unhide HU).below (unhide B3)).below (bal (Below.refl w3.heap.size w3) (.cells #[] 3)))
  go_wp2_with (first | (at_builtin; refine wpList_append_k rfl _ _ rfl w3 rfl _ ks rfl (unhide U3) hbl ?_; intro p4 c4 w4 r1 hb4 hq4; have R1 := hide r1; have HB4 := hide hb4; have HQ4 := hide hq4; clear r1 hb4 hq4))
  have B4 : Hid (Below w.heap.size w w4) := (unhide B3).trans ((unhide HB4).mono (by omega))
  refine (crash_ok (S := S) ⟨mo, m0, es, (unhide HD3).below (unhide HB4)⟩ (by omega) (unhide HI) p4 c4 ks (unhide R1) (fun q hq h' => ?_) (by omega)).mono ?_
  · have h1 := unhide HQ4 q hq
    obtain ⟨_, _, _, h2⟩ := unhide HD
    have h3 := h2.sl q h'
    omega
  rintro e w5 ⟨⟨r, rfl⟩, S2, hr1, hr2⟩
  have HR1 := hide hr1; have HR2 := hide hr2
  clear hr1 hr2
  go_wp2_with fail
  go_ret
  have hm := (unhide HI).many
  rw [unhide HR]
  exact ⟨rfl, S2, DiskOK.more (unhide HR1) (by omega), (Sep.of_below S (unhide B4)).trans (unhide HR2)⟩
end Go.Proofs.Ytpeohbkigkfcgaa
