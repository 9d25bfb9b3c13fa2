import Derived.Test.YtpeefmbdhkfhmaaGreatDoorW17
import Derived.Test.YtpeefmbdhkfhmaaGreatDoorW20
/- The document's sums: the view; Accounts (91), own (92). -/
namespace Go.Proofs.YtpeefmbdhkfhmaaGreatDoor.Kg
open Go Go.Shelf Go.ChangeShapes Go.WideShapes Go.ChangeAt Go.RowKit Go.Maps
set_option linter.unusedVariables false
set_option linter.unusedSimpArgs false
/-- the document's view at d: the names and the amounts that were told; its own blocks lie within S -/
structure Rd (W : World) (d : Nat) (S : Nat → Prop) (Ns : List ByteArray) (As : List Int) : Prop where
  ex : ∃ vn va, W.heap[d]? = some (.cells #[vn, va] 86 (0, 0)) ∧ W.ownsRow 0 kS.e kS.s vn Ns.length (kS.flat Ns) ∧ W.ownsRow 0 kN.e kN.s va As.length (kN.flat As) ∧ (∀ q, vn.ownBlock = some q → S q) ∧ (∀ q, va.ownBlock = some q → S q)
  sd : S d
  lt : ∀ q, S q → q < W.heap.size
  len : As.length = Ns.length
  few : Ns.length < 1099511627000
  am : ∀ a ∈ As, -9223372036854775807 ≤ a ∧ a ≤ 9223372036854775807
  nm : ∀ x ∈ Ns, x.size < 4611686018427387904
theorem Rd.keep {W W' : World} {d : Nat} {S : Nat → Prop} {Ns : List ByteArray} {As : List Int} (h : Rd W d S Ns As) (hz : W.heap.size ≤ W'.heap.size) (hb : ∀ q, S q → W'.heap[q]? = W.heap[q]?) : Rd W' d S Ns As := by
  obtain ⟨vn, va, h1, h2, h3, h4, h5⟩ := h.ex
  exact ⟨⟨vn, va, (hb d h.sd).trans h1, row_keep h2 (fun q hq => hb q (h4 q hq)), row_keep h3 (fun q hq => hb q (h5 q hq)), h4, h5⟩, h.sd, fun q hq => Nat.lt_of_lt_of_le (h.lt q hq) hz, h.len, h.few, h.am, h.nm⟩
theorem Rd.below {W W' : World} {d : Nat} {S : Nat → Prop} {Ns : List ByteArray} {As : List Int} (h : Rd W d S Ns As) (hb : Below W.heap.size W W') : Rd W' d S Ns As := h.keep hb.size (fun q hq => hb.block q (h.lt q hq))
theorem Rd.lists {W : World} {d : Nat} {S : Nat → Prop} {Ns : List ByteArray} {As : List Int} (h : Rd W d S Ns As) : ∃ pn cn pa ca, W.cell? ⟨d, 0, none⟩ = some (.slice pn Ns.length cn) ∧ W.cell? ⟨d, 1, none⟩ = some (.slice pa As.length ca) ∧ Lies kS W pn Ns ∧ Lies kN W pa As ∧ (pn = none → cn = 0) ∧ (pa = none → ca = 0) := by
  obtain ⟨vn, va, h1, h2, h3, _, _⟩ := h.ex
  obtain ⟨pn, cn, e1, n1, _⟩ := row_slice h2
  obtain ⟨pa, ca, e2, n2, _⟩ := row_slice h3
  subst e1 e2
  exact ⟨pn, cn, pa, ca, by rw [cell_at h1]; rfl, by rw [cell_at h1]; rfl, own_lies kS_ok rfl h2, own_lies kN_ok rfl h3, fun e => (n1 e).2, fun e => (n2 e).2⟩
/-- all names that were told, rising, each once -/
def accs (Ns : List ByteArray) : List ByteArray := Ns.foldl insL []
theorem accs_succ {Ns : List ByteArray} {i : Nat} (hi : i < Ns.length) : accs (Ns.take (i + 1)) = insL (accs (Ns.take i)) Ns[i] := by
  unfold accs
  rw [List.take_succ_eq_append_getElem hi, List.foldl_append]
  rfl
theorem insF_len (x : ByteArray) (L : List ByteArray) : (insF x L).1.length ≤ L.length + (if (insF x L).2 = true then 1 else 0) := by
  have key : ∀ (L : List ByteArray) (s : List ByteArray × Bool) (k : Nat), s.1.length ≤ k + (if s.2 = true then 1 else 0) → (L.foldl (insS x) s).1.length ≤ (k + L.length) + (if (L.foldl (insS x) s).2 = true then 1 else 0) := by
    intro L
    induction L with
    | nil => intro s k h; exact h
    | cons y L ih =>
      intro s k h
      rw [List.foldl_cons]
      have h2 : (insS x s y).1.length ≤ (k + 1) + (if (insS x s y).2 = true then 1 else 0) := by
        unfold insS
        split
        · next h' =>
          simp only [List.length_append, List.length_singleton, if_pos]
          split at h <;> omega
        · next h' =>
          have hs : ¬ s.2 = true := fun e => h' (.inl e)
          rw [if_neg hs] at h
          split
          · simp only [List.length_append, List.length_singleton, if_pos]; omega
          · simp; omega
      have := ih _ (k + 1) h2
      rw [List.length_cons]
      have e : k + 1 + L.length = k + (L.length + 1) := by omega
      rw [e] at this
      exact this
  have := key L ([], false) 0 (by simp)
  rw [Nat.zero_add] at this
  exact this
theorem insL_len (L : List ByteArray) (x : ByteArray) : (insL L x).length ≤ L.length + 1 := by
  have h := insF_len x L
  unfold insL
  split
  · next h' => rw [if_pos h'] at h; exact h
  · next h' => rw [if_neg h'] at h; rw [List.length_append, List.length_singleton]; omega
theorem accs_len : ∀ (Ns : List ByteArray), (accs Ns).length ≤ Ns.length := by
  have key : ∀ (Ns L : List ByteArray), (Ns.foldl insL L).length ≤ L.length + Ns.length := by
    intro Ns
    induction Ns with
    | nil => intro L; simp
    | cons x Ns ih =>
      intro L
      rw [List.foldl_cons, List.length_cons]
      have h1 := ih (insL L x)
      have h2 := insL_len L x
      omega
  intro Ns
  have := key Ns []
  simpa [accs] using this
set_option maxRecDepth 100000 in
set_option maxHeartbeats 8000000 in
theorem accounts_any {W : World} {d : Nat} {S : Nat → Prop} {Ns : List ByteArray} {As : List Int} (hR : Rd W d S Ns As) :
    Calls Tryz.prog 91 #[.pointer (some ⟨d, 0, none⟩)] W fun e w' => ∃ p' c', e = .returned (.slice p' (accs Ns).length c') ∧ Ml kS W w' (.slice p' (accs Ns).length c') (accs Ns) := by
  obtain ⟨pn, cn, pa, ca, c0, _, hlN, _, _, _⟩ := hR.lists
  have hdl : d < W.heap.size := hR.lt d hR.sd
  have hfew := hR.few
  obtain ⟨n, hn⟩ : ∃ n, n = Ns.length := ⟨_, rfl⟩
  rw [← hn] at c0 hfew
  have HC : Hid (∀ w', Below W.heap.size W w' → w'.cell? ⟨d, 0, none⟩ = some (.slice pn n cn)) := fun w' hb => keep1 hb hdl c0
  have HL := hide hlN; have HN := hide hn
  clear hR hlN hn c0
  go_enter Tryz.func91, Tryz.ntmps91
  go_wp2_with fail
  go_loopw [3, 4] (fun v3 v4 wr => ∃ (i m : Nat) (p3 : Option Addr) (c3 : Nat), v4 = .int .i64 i ∧ v3 = .slice p3 m c3 ∧ i ≤ n ∧ Hid ((accs (Ns.take i)).length = m ∧ Ml kS W wr v3 (accs (Ns.take i)))) (fun _ v4 _ => n - (intOf v4).toNat)
  case atStart => exact ⟨0, 0, none, 0, rfl, rfl, by omega, rfl, Ml.nil _ (Below.refl _ _)⟩
  case round =>
    obtain ⟨i, m, p3, c3, rfl, rfl, hi, hrel⟩ := hrel
    obtain ⟨hm, hml⟩ := unhide hrel
    have q0 := unhide HC wr hml.bel
    by_cases hlt : i < n
    · have hiN : i < Ns.length := by rw [← unhide HN]; exact hlt
      obtain ⟨b, off, e, hbl, hr⟩ := (unhide HL).2 i hiN
      obtain ⟨x, hx⟩ : ∃ x, x = Ns[i] := ⟨_, rfl⟩
      have hst := accs_succ hiN
      rw [← hx] at hst hr
      have k0 : wr.cell? ⟨b, off + i, none⟩ = some (.string x) := keep1 hml.bel hbl (by
        have := hr 0 _ rfl
        simpa [kS] using this)
      subst e
      have hI : (i : Int) < (n : Int) := by omega
      have hI0 : (0 : Int) ≤ (i : Int) := by omega
      have hlm := accs_len (Ns.take i)
      rw [List.length_take, hm] at hlm
      have hd := hide (ins_any (W := wr) (p := p3) (c := c3) (n := m) (L := accs (Ns.take i)) hm (by omega) (own_lies kS_ok hm (by have h := hml.row; rw [hm] at h; exact h)) x)
      rw [← hst] at hd
      have HML := hide hml
      clear hr hbl hiN hx hst hrel hm hml hlm
      go_wp2_with fail
      refine (unhide hd).mono ?_
      rintro e w2 ⟨p', c', rfl, hm2⟩
      have HN2 : Hid (Ml kS W w2 (.slice p' (accs (Ns.take (i + 1))).length c') (accs (Ns.take (i + 1)))) := ⟨row_le hm2.row (unhide HML).bel.size, (unhide HML).bel.trans (hm2.bel.mono (unhide HML).bel.size)⟩
      clear hm2 q0 k0
      go_wp2_with fail
      go_round
      case rel => exact ⟨i + 1, _, p', c', by push_cast; rfl, rfl, by omega, rfl, unhide HN2⟩
      case measure => simp only [intOf]; omega
    · have hin : i = n := by omega
      have hI : ¬ (i : Int) < (n : Int) := by omega
      have HF : Hid (∃ p' c', Ending.returned (.slice p3 m c3) = .returned (.slice p' (accs Ns).length c') ∧ Ml kS W wr (.slice p' (accs Ns).length c') (accs Ns)) := by
        rw [hin, unhide HN, List.take_length] at hm hml
        rw [hm]
        exact ⟨p3, c3, rfl, hml⟩
      clear hrel hm hml
      go_wp2_with fail
      go_ret
      exact unhide HF
/-- the amounts of one name -/
def amtsOf (Ns : List ByteArray) (As : List Int) (s : ByteArray) : List Int := ((Ns.zip As).filter fun p => decide (p.1 = s)).map (·.2)
theorem amtsOf_succ {Ns : List ByteArray} {As : List Int} (s : ByteArray) {i : Nat} (h1 : i < Ns.length) (h2 : i < As.length) : amtsOf (Ns.take (i + 1)) (As.take (i + 1)) s = amtsOf (Ns.take i) (As.take i) s ++ (if Ns[i] = s then [As[i]] else []) := by
  unfold amtsOf
  have hz : (Ns.take (i + 1)).zip (As.take (i + 1)) = (Ns.take i).zip (As.take i) ++ [(Ns[i], As[i])] := by
    rw [List.take_succ_eq_append_getElem h1, List.take_succ_eq_append_getElem h2, List.zip_append (by rw [List.length_take, List.length_take]; omega)]
    rfl
  rw [hz, List.filter_append, List.map_append]
  congr 1
  by_cases h : Ns[i] = s
  · simp [h]
  · simp [h]
theorem amtsOf_len (Ns : List ByteArray) (As : List Int) (s : ByteArray) : (amtsOf Ns As s).length ≤ As.length := by
  unfold amtsOf
  rw [List.length_map]
  refine Nat.le_trans (List.length_filter_le _ _) ?_
  rw [List.length_zip]
  omega
theorem amtsOf_mem {Ns : List ByteArray} {As : List Int} {s : ByteArray} {a : Int} (h : a ∈ amtsOf Ns As s) : a ∈ As := by
  unfold amtsOf at h
  obtain ⟨p, hp, rfl⟩ := List.mem_map.1 h
  exact (List.of_mem_zip (List.mem_filter.1 hp).1).2
/-- the document's Sum of a list that lies somewhere -/
theorem rsum_lies {W : World} {p : Option Addr} {c n : Nat} {L : List Int} (hn : L.length = n) (hl : n ≤ 9223372036854775807) (hL : Lies kN W p L) (ha : ∀ a ∈ L, -9223372036854775808 ≤ a ∧ a ≤ 9223372036854775807) :
    Calls Tryz.prog 99 #[.slice p n c] W fun e w' => e = .returned (.tuple #[.int .i64 (Mw.sumSpec (fun k => L.getD k 0) n).1, .int .i64 (Mw.sumSpec (fun k => L.getD k 0) n).2]) ∧ Below W.heap.size W w' := by
  by_cases h0 : n = 0
  · subst h0
    exact Mw.rsum_zero _ p c W
  · obtain ⟨b, off, e, hbl, _⟩ := hL.2 0 (by omega)
    subst e
    refine Mw.rsum_any _ b off n c hl (fun k hk => ?_) W (fun k hk => ?_) hbl
    · have hk' : k < L.length := by omega
      have : L.getD k 0 = L[k] := by simp [hk']
      rw [this]
      exact ha _ (List.getElem_mem hk')
    · have hk' : k < L.length := by omega
      have e1 : L.getD k 0 = L[k] := by simp [hk']
      obtain ⟨b', off', e2, _, hr⟩ := hL.2 k hk'
      cases e2
      rw [e1]
      have := hr 0 _ rfl
      simpa [kN] using this
set_option maxRecDepth 100000 in
set_option maxHeartbeats 8000000 in
theorem rown_any {W : World} {d : Nat} {S : Nat → Prop} {Ns : List ByteArray} {As : List Int} (hR : Rd W d S Ns As) (s : ByteArray) :
    Calls Tryz.prog 92 #[.pointer (some ⟨d, 0, none⟩), .string s] W fun e w' => e = .returned (.tuple #[.int .i64 (Mw.sumSpec (fun k => (amtsOf Ns As s).getD k 0) (amtsOf Ns As s).length).1, .int .i64 (Mw.sumSpec (fun k => (amtsOf Ns As s).getD k 0) (amtsOf Ns As s).length).2]) ∧ Below W.heap.size W w' := by
  obtain ⟨pn, cn, pa, ca, c0, c1, hlN, hlA, _, _⟩ := hR.lists
  have hdl : d < W.heap.size := hR.lt d hR.sd
  have hfew := hR.few
  obtain ⟨n, hn⟩ : ∃ n, n = Ns.length := ⟨_, rfl⟩
  have hna : n = As.length := hn.trans hR.len.symm
  rw [← hn] at c0 hfew
  rw [← hna] at c1
  have HC : Hid (∀ w', Below W.heap.size W w' → w'.cell? ⟨d, 0, none⟩ = some (.slice pn n cn) ∧ w'.cell? ⟨d, 1, none⟩ = some (.slice pa n ca)) := fun w' hb => ⟨keep1 hb hdl c0, keep1 hb hdl c1⟩
  have HL := hide hlN; have HLA := hide hlA; have HN := hide hn; have HNA := hide hna; have HAM := hide hR.am
  clear hR hlN hlA hn hna c0 c1
  go_enter Tryz.func92, Tryz.ntmps92
  go_wp2_with fail
  go_loopw [6, 7] (fun v6 v7 wr => ∃ (i m : Nat) (p6 : Option Addr) (c6 : Nat), v7 = .int .i64 i ∧ v6 = .slice p6 m c6 ∧ i ≤ n ∧ Hid ((amtsOf (Ns.take i) (As.take i) s).length = m ∧ Ml kN W wr v6 (amtsOf (Ns.take i) (As.take i) s))) (fun _ v7 _ => n - (intOf v7).toNat)
  case atStart => exact ⟨0, 0, none, 0, rfl, rfl, by omega, rfl, Ml.nil _ (Below.refl _ _)⟩
  case round =>
    obtain ⟨i, m, p6, c6, rfl, rfl, hi, hrel⟩ := hrel
    obtain ⟨hm, hml⟩ := unhide hrel
    obtain ⟨q0, q1⟩ := unhide HC wr hml.bel
    by_cases hlt : i < n
    · have hiN : i < Ns.length := by rw [← unhide HN]; exact hlt
      have hiA : i < As.length := by rw [← unhide HNA]; exact hlt
      obtain ⟨b, off, e, hbl, hr⟩ := (unhide HL).2 i hiN
      obtain ⟨b2, off2, e2, hbl2, hr2⟩ := (unhide HLA).2 i hiA
      obtain ⟨x, hx⟩ : ∃ x, x = Ns[i] := ⟨_, rfl⟩
      obtain ⟨a, ha⟩ : ∃ a, a = As[i] := ⟨_, rfl⟩
      have hst := amtsOf_succ s hiN hiA
      rw [← hx, ← ha] at hst
      rw [← hx] at hr
      rw [← ha] at hr2
      have k0 : wr.cell? ⟨b, off + i, none⟩ = some (.string x) := keep1 hml.bel hbl (by
        have := hr 0 _ rfl
        simpa [kS] using this)
      have k1 : wr.cell? ⟨b2, off2 + i, none⟩ = some (.int .i64 a) := keep1 hml.bel hbl2 (by
        have := hr2 0 _ rfl
        simpa [kN] using this)
      subst e e2
      have hI : (i : Int) < (n : Int) := by omega
      have hI0 : (0 : Int) ≤ (i : Int) := by omega
      have hlm := amtsOf_len (Ns.take i) (As.take i) s
      rw [List.length_take, hm] at hlm
      by_cases hxs : x = s
      · subst hxs
        have hbt : (x.toList == x.toList) = true := by simp
        rw [if_pos rfl] at hst
        obtain ⟨p', c', w8, hr8, hm8⟩ := hml.more kN_ok (by omega) a #[.int .i64 a] rfl 84 2
        have HN8 : Hid ((amtsOf (Ns.take (i + 1)) (As.take (i + 1)) x).length = m + 1 ∧ Ml kN W w8 (.slice p' (m + 1) c') (amtsOf (Ns.take (i + 1)) (As.take (i + 1)) x)) := by
          rw [hst]
          exact ⟨by rw [List.length_append, hm]; rfl, by rw [← hm]; exact hm8⟩
        rw [hm] at hr8
        have HR8 := hide hr8
        clear hr hr2 hbl hbl2 hiN hiA hx ha hst hrel hm hml hlm hr8 hm8
        go_wp2_with (first | (at_builtin; refine wpList_append_run rfl _ _ 84 rfl _ _ _ _ rfl rfl (unhide HR8) ?_))
        go_round
        case rel => exact ⟨i + 1, m + 1, p', c', by push_cast; rfl, rfl, by omega, unhide HN8⟩
        case measure => simp only [intOf]; omega
      · have hne := str_ne hxs
        rw [if_neg hxs, List.append_nil] at hst
        have HN8 : Hid ((amtsOf (Ns.take (i + 1)) (As.take (i + 1)) s).length = m ∧ Ml kN W wr (.slice p6 m c6) (amtsOf (Ns.take (i + 1)) (As.take (i + 1)) s)) := by
          rw [hst]
          exact ⟨hm, hml⟩
        clear hr hr2 hbl hbl2 hiN hiA hx ha hst hrel hm hml hlm hxs
        go_wp2_with fail
        go_round
        case rel => exact ⟨i + 1, m, p6, c6, by push_cast; rfl, rfl, by omega, unhide HN8⟩
        case measure => simp only [intOf]; omega
    · have hin : i = n := by omega
      have hI : ¬ (i : Int) < (n : Int) := by omega
      have e1 : Ns.take i = Ns := by rw [hin, unhide HN, List.take_length]
      have e2 : As.take i = As := by rw [hin, unhide HNA, List.take_length]
      rw [e1, e2] at hm hml
      have hlm := amtsOf_len Ns As s
      have hd := hide (rsum_lies (W := wr) (p := p6) (c := c6) (n := m) hm (by rw [← hm]; have := unhide HNA; omega) (own_lies kN_ok hm (by have h := hml.row; rw [hm] at h; exact h)) (fun a ha => by have := unhide HAM a (amtsOf_mem ha); omega))
      rw [← hm] at hd
      have HML := hide hml
      rw [hm] at hd
      obtain ⟨r1, hr1⟩ : ∃ r1, r1 = (Mw.sumSpec (fun k => (amtsOf Ns As s).getD k 0) (amtsOf Ns As s).length).1 := ⟨_, rfl⟩
      obtain ⟨r2, hr2⟩ : ∃ r2, r2 = (Mw.sumSpec (fun k => (amtsOf Ns As s).getD k 0) (amtsOf Ns As s).length).2 := ⟨_, rfl⟩
      rw [hm] at hr1 hr2
      rw [← hr1, ← hr2] at hd
      have HE : Hid ((Mw.sumSpec (fun k => (amtsOf Ns As s).getD k 0) (amtsOf Ns As s).length).1 = r1 ∧ (Mw.sumSpec (fun k => (amtsOf Ns As s).getD k 0) (amtsOf Ns As s).length).2 = r2) := by
        rw [hm]; exact ⟨hr1.symm, hr2.symm⟩
      clear hrel hm hml hlm e1 e2 hr1 hr2 q1
      go_wp2_with fail
      refine (unhide hd).mono ?_
      rintro e w2 ⟨rfl, hb2⟩
      have HB := hide ((unhide HML).bel.trans (hb2.mono (unhide HML).bel.size))
      clear hb2
      go_wp2_with fail
      go_ret2
      exact ⟨by rw [(unhide HE).1, (unhide HE).2]; simp, unhide HB⟩
end Go.Proofs.YtpeefmbdhkfhmaaGreatDoor.Kg
/- The document's sums: sums of lists; two lists that a call makes side by side; sides (90). -/
namespace Go.Proofs.YtpeefmbdhkfhmaaGreatDoor.Kg
open Go Go.Shelf Go.ChangeShapes Go.WideShapes Go.ChangeAt Go.RowKit Go.Maps
set_option linter.unusedVariables false
set_option linter.unusedSimpArgs false
def isAm (a : Int) : Prop := -9223372036854775807 ≤ a ∧ a ≤ 9223372036854775807
/-- what the document's Sum answers of amounts -/
def sumL (L : List Int) : Int × Int := if -9223372036854775807 ≤ L.sum ∧ L.sum ≤ 9223372036854775807 then (L.sum, 0) else (0, 11)
theorem anyMin_no {L : List Int} (h : ∀ a ∈ L, isAm a) : ∀ n, n ≤ L.length → Mw.anyMin (fun k => L.getD k 0) n = false := by
  intro n
  induction n with
  | zero => intro _; rfl
  | succ n ih =>
    intro hn
    have hl : n < L.length := by omega
    have e : L.getD n 0 = L[n] := by simp [hl]
    have := h _ (List.getElem_mem hl)
    unfold isAm at this
    simp only [Mw.anyMin, ih (by omega), e]
    simp
    omega
theorem sumZ_sum (L : List Int) : ∀ n, n ≤ L.length → Mw.sumZ (fun k => L.getD k 0) n = (L.take n).sum := by
  intro n
  induction n with
  | zero => intro _; rfl
  | succ n ih =>
    intro hn
    have hl : n < L.length := by omega
    have e : L.getD n 0 = L[n] := by simp [hl]
    rw [List.take_succ_eq_append_getElem hl, List.sum_append, ← ih (by omega)]
    simp [Mw.sumZ, hl]
theorem sumSpec_L {L : List Int} (h : ∀ a ∈ L, isAm a) : Mw.sumSpec (fun k => L.getD k 0) L.length = sumL L := by
  have h1 := anyMin_no h L.length (Nat.le_refl _)
  have h2 := sumZ_sum L L.length (Nat.le_refl _)
  rw [List.take_length] at h2
  unfold sumL
  by_cases hc : -9223372036854775807 ≤ L.sum ∧ L.sum ≤ 9223372036854775807
  · rw [if_pos hc, Mw.sumSpec_fits h1 (by rw [h2]; omega) (by rw [h2]; omega), h2]
  · rw [if_neg hc, Mw.sumSpec_over h1 (by rw [h2]; omega)]
theorem sumL_am (L : List Int) : isAm (sumL L).1 := by
  unfold sumL
  split
  · assumption
  · unfold isAm; omega
theorem rown_L {W : World} {d : Nat} {S : Nat → Prop} {Ns : List ByteArray} {As : List Int} (hR : Rd W d S Ns As) (s : ByteArray) :
    Calls Tryz.prog 92 #[.pointer (some ⟨d, 0, none⟩), .string s] W fun e w' => e = .returned (.tuple #[.int .i64 (sumL (amtsOf Ns As s)).1, .int .i64 (sumL (amtsOf Ns As s)).2]) ∧ Below W.heap.size W w' := by
  have h := rown_any hR s
  rw [sumSpec_L (fun a ha => hR.am a (amtsOf_mem ha))] at h
  exact h
theorem rsum_L {W : World} {p : Option Addr} {c n : Nat} {L : List Int} (hn : L.length = n) (hl : n ≤ 9223372036854775807) (hL : Lies kN W p L) (ha : ∀ a ∈ L, isAm a) :
    Calls Tryz.prog 99 #[.slice p n c] W fun e w' => e = .returned (.tuple #[.int .i64 (sumL L).1, .int .i64 (sumL L).2]) ∧ Below W.heap.size W w' := by
  have h := rsum_lies (c := c) hn hl hL (fun a h => by have := ha a h; unfold isAm at this; omega)
  rw [← hn, sumSpec_L ha] at h
  rw [← hn]
  exact h
/-- two lists that the call has made since wb, each in a block of its own -/
structure Ml2 {α β : Type} (K : Kd α) (J : Kd β) (wb w : World) (u v : Value) (M : List α) (N : List β) : Prop where
  a : Ml K wb w u M
  b : Ml J wb w v N
  ap : ∀ q, u.ownBlock = some q → v.ownBlock ≠ some q
theorem Ml2.below {α β : Type} {K : Kd α} {J : Kd β} {wb w w' : World} {u v : Value} {M : List α} {N : List β} (h : Ml2 K J wb w u v M N) (hb : Below w.heap.size w w') : Ml2 K J wb w' u v M N := ⟨h.a.below hb, h.b.below hb, h.ap⟩
theorem Ml2.swap {α β : Type} {K : Kd α} {J : Kd β} {wb w : World} {u v : Value} {M : List α} {N : List β} (h : Ml2 K J wb w u v M N) : Ml2 J K wb w v u N M := ⟨h.b, h.a, fun q h1 h2 => h.ap q h2 h1⟩
theorem Ml2.more {α β : Type} {K : Kd α} {J : Kd β} (hK : KdOK K) {wb w : World} {u v : Value} {M : List α} {N : List β} (h : Ml2 K J wb w u v M N) (hl : M.length < 1099511627776) (x : α) (vs : Array Value) (hv : vs.toList = K.enc x) (ty t : TypeId) :
    ∃ p' c' w', (Builtin.append_ #[K.t, K.t] ty #[u, .slice (some ⟨w.heap.size, 0, none⟩) 1 1]).run Tryz.prog (w.alloc (.cells vs t)) = .ok (.slice p' (M.length + 1) c') w' ∧ Ml2 K J wb w' (.slice p' (M.length + 1) c') v (M ++ [x]) N := by
  obtain ⟨Z, hZ⟩ : ∃ Z, Z = w.alloc (.cells vs t) := ⟨_, rfl⟩
  have hZ1 : Below w.heap.size w Z := by rw [hZ]; exact (Below.refl _ _).alloc (Nat.le_refl _) _
  have hzs : Z.heap.size = w.heap.size + 1 := by rw [hZ]; simp
  have hu : Lies K Z (some ⟨w.heap.size, 0, none⟩) [x] := by rw [hZ]; exact one_lies w x t _ hv
  have hm := h.below hZ1
  obtain ⟨p', c', w', hr, ho, hb, hfar, hown⟩ := run_app hK ty (W := Z) (B := wb.heap.size) (M := [x]) hm.a.row hm.a.bel.size (some ⟨w.heap.size, 0, none⟩) 1 (fun h => by cases h) hu (by simp; omega)
  simp only [List.length_singleton] at hr ho hown
  rw [← hZ]
  refine ⟨p', c', w', hr, ⟨by rw [List.length_append, List.length_singleton]; exact ho, hm.a.bel.trans hb⟩, ⟨row_keep hm.b.row (fun q hq => hfar q (row_block hm.b.row hq).2.1 (fun e => h.ap q e hq)), hm.b.bel.trans hb⟩, fun q h1 h2 => ?_⟩
  rcases hown with e | e
  · exact h.ap q (e.symm.trans h1) h2
  · rw [e] at h1
    injection h1 with h1
    have := (row_block h.b.row h2).2.1
    omega
/-- the accounts' sums, one behind the other -/
def ownsL (Ns : List ByteArray) (As : List Int) (L : List ByteArray) : List (Int × Int) := L.map fun s => sumL (amtsOf Ns As s)
def upsL (L : List (Int × Int)) : List Int := (L.filter fun p => decide (0 < p.1)).map (·.1)
def dnsL (L : List (Int × Int)) : List Int := (L.filter fun p => !decide (0 < p.1)).map (fun p => -p.1)
/-- what sides answers -/
def sidS (Ns : List ByteArray) (As : List Int) : Int × Int × Int :=
  if (ownsL Ns As (accs Ns)).any (fun p => p.2 != 0) = true then (0, 0, 11)
  else if (sumL (upsL (ownsL Ns As (accs Ns)))).2 ≠ 0 ∨ (sumL (dnsL (ownsL Ns As (accs Ns)))).2 ≠ 0 then (0, 0, 11)
  else ((sumL (upsL (ownsL Ns As (accs Ns)))).1, (sumL (dnsL (ownsL Ns As (accs Ns)))).1, 0)
theorem sumL_err (L : List Int) : (sumL L).2 = 0 ∨ (sumL L).2 = 11 := by
  unfold sumL
  split
  · exact .inl rfl
  · exact .inr rfl
theorem ownsL_succ {Ns : List ByteArray} {As : List Int} {L : List ByteArray} {i : Nat} (hi : i < L.length) : ownsL Ns As (L.take (i + 1)) = ownsL Ns As (L.take i) ++ [sumL (amtsOf Ns As L[i])] := by
  unfold ownsL
  rw [List.take_succ_eq_append_getElem hi, List.map_append]
  rfl
theorem upsL_am {Ns : List ByteArray} {As : List Int} {L : List ByteArray} : ∀ a ∈ upsL (ownsL Ns As L), isAm a := fun a ha => by
  obtain ⟨p, hp, rfl⟩ := List.mem_map.1 ha
  obtain ⟨s, _, rfl⟩ := List.mem_map.1 (List.mem_filter.1 hp).1
  exact sumL_am _
theorem dnsL_am {Ns : List ByteArray} {As : List Int} {L : List ByteArray} : ∀ a ∈ dnsL (ownsL Ns As L), isAm a := fun a ha => by
  obtain ⟨p, hp, rfl⟩ := List.mem_map.1 ha
  obtain ⟨s, _, rfl⟩ := List.mem_map.1 (List.mem_filter.1 hp).1
  have := sumL_am (amtsOf Ns As s)
  unfold isAm at this ⊢
  omega
theorem upsL_len (L : List (Int × Int)) : (upsL L).length ≤ L.length := by
  unfold upsL
  rw [List.length_map]
  exact List.length_filter_le _ _
theorem dnsL_len (L : List (Int × Int)) : (dnsL L).length ≤ L.length := by
  unfold dnsL
  rw [List.length_map]
  exact List.length_filter_le _ _
theorem upsL_more (L : List (Int × Int)) (p : Int × Int) : upsL (L ++ [p]) = upsL L ++ (if 0 < p.1 then [p.1] else []) := by
  unfold upsL
  rw [List.filter_append, List.map_append]
  congr 1
  by_cases h : 0 < p.1 <;> simp [h]
theorem dnsL_more (L : List (Int × Int)) (p : Int × Int) : dnsL (L ++ [p]) = dnsL L ++ (if 0 < p.1 then [] else [-p.1]) := by
  unfold dnsL
  rw [List.filter_append, List.map_append]
  congr 1
  by_cases h : 0 < p.1 <;> simp [h]
end Go.Proofs.YtpeefmbdhkfhmaaGreatDoor.Kg
