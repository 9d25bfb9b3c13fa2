import Derived.Test.YtmgnlgobkkfjhaaGreatDoorW19
import Derived.Laws.StructEq
import Derived.Test.YtmgnlgobkkfjhaaGreatDoorW18
/- daily: sameDays (12) of equal lists; At (11). -/
namespace Go.Proofs.YtmgnlgobkkfjhaaGreatDoor
open Go Go.RowKit Go.Shelf Go.ChangeShapes Go.WideShapes Go.ChangeAt Go.Maps
set_option linter.unusedVariables false
def ld44 (x : Value) : Sem Value := Instr.loadAt 38 x
theorem ld44_is (x : Value) : Instr.loadAt 38 x = ld44 x := rfl
theorem size44 : (Tryz.prog.info? 38).map (·.size) = some 4 := by kernel_rfl
theorem st44 : Tryz.prog.underlying 38 = some (.struct (Tryz.prog.fieldsOf 38)) := by kernel_rfl
theorem sh44 : Tryz.prog.stoodInHeld 38 = false := by kernel_rfl
theorem eg44 : Tryz.prog.eqGuardType Tryz.prog.depth 38 = false := by kernel_rfl
theorem fl44 : (Tryz.prog.fieldsOf 38).toList.map (fun f => (f.type, f.offset, f.name == "_")) = [(9, 0, false), (3, 1, false), (2, 2, false), (2, 3, false)] := by kernel_rfl
theorem eq44_same (s : ByteArray) (x y z : Int) (w : World) : (Op.equalIn 10000 38 (.agg #[.string s, .int .i64 x, .int .i64 y, .int .i64 z]) (.agg #[.string s, .int .i64 x, .int .i64 y, .int .i64 z])).run Tryz.prog w = .ok true w := by
  rw [run_equalIn_agg w 9999 38 _ _ st44 sh44]
  obtain ⟨f0, f1, f2, f3, hf⟩ : ∃ f0 f1 f2 f3, (Tryz.prog.fieldsOf 38).toList = [f0, f1, f2, f3] := by
    have h := congrArg List.length fl44
    rw [List.length_map] at h
    match hq : (Tryz.prog.fieldsOf 38).toList, h with
    | [a, b, c, d], _ => exact ⟨a, b, c, d, rfl⟩
  have h := fl44
  rw [hf] at h ⊢
  simp at h
  simp [Op.eqFields, go_sem, h, Tryz.underlying9, Tryz.underlying2, Tryz.underlying3]
attribute [local go_sem ↓] ld44_is
set_option maxRecDepth 100000 in
set_option maxHeartbeats 4000000 in
theorem same_any {W : World} {p1 p2 : Option Addr} {c1 c2 n : Nat} {L : List Dr} (hn : L.length = n) (hn2 : n ≤ 1099511627776) (h : Lies kD W p1 L) (h' : Lies kD W p2 L) :
    Calls Tryz.prog 27 #[.slice p1 n c1, .slice p2 n c2] W fun e w' => e = .returned (.bool true) ∧ ∃ m, w' = W.drewN m := by
  have H := hide h; have H' := hide h'; have HN := hide hn
  have hst := st44
  have hsh := sh44
  have heg := eg44
  have heq := eq44_same
  clear h h' hn
  go_enter Tryz.func27, Tryz.ntmps27
  go_wp2_with fail
  go_loopw [5] (fun i wr => ∃ (k m : Nat), i = .int .i64 k ∧ k ≤ n ∧ Hid (wr = W.drewN m)) (fun i _ => n - (intOf i).toNat)
  case atStart => exact ⟨0, 0, rfl, by omega, rfl⟩
  case round =>
    obtain ⟨k, m, rfl, hk, hw⟩ := hrel
    by_cases hlt : k < n
    · have hkl : k < L.length := by rw [unhide HN]; exact hlt
      obtain ⟨b1, o1, e1, _, r1⟩ := (unhide H).2 k hkl
      obtain ⟨b2, o2, e2, _, r2⟩ := (unhide H').2 k hkl
      subst e1 e2
      obtain ⟨s, x, y, z, hxyz⟩ : ∃ s x y z, L[k] = (s, x, y, z) := ⟨_, _, _, _, rfl⟩
      rw [hxyz] at r1 r2
      have l1 : ∀ d', (ld44 (.pointer (some ⟨b1, o1 + k * 4, none⟩))).run Tryz.prog (wr.drewN d') = .ok (.agg #[.string s, .int .i64 x, .int .i64 y, .int .i64 z]) (wr.drewN d') := fun d' => by
        rw [unhide hw]
        exact run_loadAt_mid (P := Tryz.prog) _ b1 (o1 + k * 4) 38 [.string s, .int .i64 x, .int .i64 y, .int .i64 z] _ (fun j u hu => by have h1 : W.cell? ⟨b1, o1 + k * 4 + j, none⟩ = some u := r1 j u hu; simpa using h1) Tryz.underlying38 rfl size44
      have l2 : ∀ d', (ld44 (.pointer (some ⟨b2, o2 + k * 4, none⟩))).run Tryz.prog (wr.drewN d') = .ok (.agg #[.string s, .int .i64 x, .int .i64 y, .int .i64 z]) (wr.drewN d') := fun d' => by
        rw [unhide hw]
        exact run_loadAt_mid (P := Tryz.prog) _ b2 (o2 + k * 4) 38 [.string s, .int .i64 x, .int .i64 y, .int .i64 z] _ (fun j u hu => by have h1 : W.cell? ⟨b2, o2 + k * 4 + j, none⟩ = some u := r2 j u hu; simpa using h1) Tryz.underlying38 rfl size44
      clear r1 r2 hxyz hkl
      go_wp2_with fail
      go_quiet (fail)
      go_wp2_with fail
      refine ⟨⟨k + 1, m + nq, by simp, by omega, ?_⟩, by simp [intOf]; omega⟩
      show _ = _
      rw [unhide hw, drew_two]
    · have hkn : k = n := by omega
      subst hkn
      go_wp2_with fail
      go_ret
      exact ⟨rfl, m, unhide hw⟩
/-- the balance of the marks up to a day -/
theorem blc_upto {T : Td} {S : List Mk} (h : Ser T S) (day : Int) {r : Nat} (hr : r ≤ S.length) (h1 : ∀ k, k < r → dayOf S k ≤ day) (h2 : ∀ k, r ≤ k → k < S.length → dayOf S k > day) : (if r = 0 then 0 else (S.getD (r - 1) (0, 0, 0)).2.2) = blc T day := by
  have e0 : blc T day = blc (tld S) day := (blc_same h.own_tld day).symm
  have e1 : tld S = tld (S.take r) ++ tld (S.drop r) := by unfold tld; rw [← List.map_append, List.take_append_drop]
  have e2 : blc (tld (S.drop r)) day = 0 := blc_before fun x hx => by
    obtain ⟨m, hm, rfl⟩ := List.mem_map.1 hx
    obtain ⟨j, hj, rfl⟩ := List.mem_iff_getElem.1 hm
    rw [List.length_drop] at hj
    have := h2 (r + j) (by omega) (by omega)
    rw [dayOf_lt (show r + j < S.length by omega)] at this
    rw [List.getElem_drop]
    exact this
  have e3 : blc (tld (S.take r)) day = tot (tld (S.take r)) := blc_behind fun x hx => by
    obtain ⟨m, hm, rfl⟩ := List.mem_map.1 hx
    obtain ⟨j, hj, rfl⟩ := List.mem_iff_getElem.1 hm
    rw [List.length_take] at hj
    have := h1 j (by omega)
    rw [dayOf_lt (show j < S.length by omega)] at this
    rw [List.getElem_take]
    exact this
  rw [e0, e1, blc_append, e2, e3, Int.add_zero]
  by_cases h0 : r = 0
  · subst h0
    rfl
  · obtain ⟨k, rfl⟩ : ∃ k, r = k + 1 := ⟨r - 1, by omega⟩
    have e : S.take (k + 1) = S.take k ++ [S[k]] := List.take_succ_eq_append_getElem (by omega)
    have ht := h.take (k + 1)
    rw [e] at ht
    have eg : S.getD (k + 1 - 1) (0, 0, 0) = S[k] := by simp [List.getD, show k < S.length by omega]
    rw [if_neg (by omega), eg, e, ht.tot_last]
theorem zero55M (w : World) : (zeroValue 96).run Tryz.prog w = .ok (.slice none 0 0) w := by kernel_rfl
theorem AcAt.look {w : World} {B n : Nat} {mo : Option Nat} {F : List UInt8 → List Mk} {V : List UInt8 → Value} (h : AcAt w B n mo F V) {s : ByteArray} (hs : s.size ≤ maxLen) : (Instr.lookup 78 (.map mo) (.string s) false).run Tryz.prog w = .ok (V s.data.toList) w := by
  rcases h with ⟨rfl, _, h2⟩ | ⟨b, D, rfl, _, hA⟩
  · rw [h2]
    exact Maps.look_nil (w := w) false (string_keyed Tryz.underlying9) und46 (zero55M w) (keyM hs)
  · exact hA.look (t := 78) und46 (zero55M w) hs
set_option maxRecDepth 100000 in
set_option maxHeartbeats 2000000 in
theorem at_any {W : World} {B d n : Nat} {mo : Option Nat} {F : List UInt8 → List Mk} {V : List UInt8 → Value} (hV : DvAt W B d n mo F V) {s : ByteArray} (hs : s.size ≤ maxLen) {T : Td} (hT : Ser T (F s.data.toList)) (hl : (F s.data.toList).length ≤ 1099511627776) (day : Int) :
    Calls Tryz.prog 24 #[.pointer (some ⟨d, 0, none⟩), .string s, .int .i64 day] W fun e w' => e = .returned (.int .i64 (blc T day)) ∧ Below W.heap.size W w' := by
  obtain ⟨hc0, hf0⟩ := hV.c0
  have hlk := hV.2.2.look hs
  obtain ⟨S, hS⟩ : ∃ S, S = F s.data.toList := ⟨_, rfl⟩
  rw [← hS] at hT hl
  obtain ⟨p, c, hv, _, _⟩ := row_slice (hV.2.2.row s.data.toList)
  rw [← hS] at hv
  rw [hv] at hlk
  have hli : Lies kM W p S := own_lies kM_ok rfl (by have := hV.2.2.row s.data.toList; rw [hv, ← hS] at this; exact this)
  have dU := hide (upto_any S hT.up (by omega) p c day W hli)
  have HLI := hide hli; have HT := hide hT
  obtain ⟨N, hN⟩ : ∃ N, N = S.length := ⟨_, rfl⟩
  have HN := hide hN
  rw [← hN] at dU hlk hl
  clear hV hli hT hv hS hN
  go_enter Tryz.func24, Tryz.ntmps24
  go_wp2_with fail
  refine (unhide dU).mono ?_
  rintro e w1 ⟨r, rfl, hr, h1, h2, hb⟩
  rw [unhide HN] at hr h2
  have hbl := blc_upto (unhide HT) day hr h1 h2
  have dB := hide (blc_any S p c r hr (by rw [← unhide HN]; omega) w1 ((unhide HLI).below hb))
  rw [hbl, ← unhide HN] at dB
  have HB := hide hb
  clear h1 h2 hb hbl dU
  go_wp2_with fail
  refine (unhide dB).mono ?_
  rintro e wx ⟨rfl, hwx⟩
  rw [hwx]
  clear hwx wx dB
  go_wp2_with fail
  go_ret
  exact ⟨rfl, unhide HB⟩
end Go.Proofs.YtmgnlgobkkfjhaaGreatDoor
/- daily: the map of tails. -/
namespace Go.Proofs.YtmgnlgobkkfjhaaGreatDoor
open Go Go.ChangeShapes Go.WideShapes Go.ChangeAt Go.RowKit Go.Maps
set_option linter.unusedVariables false
/-- an element of two cells, held as it is -/
def tailElem : Value → Option (DataW Value × List MemPlace)
  | .agg a => match a.toList with
    | [.int .i64 st, .slice p n c] => some (.held (.agg #[.int .i64 st, .slice p n c]), [])
    | _ => none
  | _ => none
theorem tailElem_mk (st : Int) (p : Option Addr) (n c : Nat) : tailElem (.agg #[.int .i64 st, .slice p n c]) = some (.held (.agg #[.int .i64 st, .slice p n c]), []) := rfl
theorem tailElem_inv {v : Value} {y : DataW Value × List MemPlace} (h : tailElem v = some y) : ∃ st p n c, v = .agg #[.int .i64 st, .slice p n c] ∧ y = (.held v, []) := by
  unfold tailElem at h
  split at h
  · next a =>
    split at h
    · next st p n c heq =>
      obtain ⟨l⟩ := a
      simp only at heq
      subst heq
      injection h with h
      exact ⟨st, p, n, c, rfl, h.symm⟩
    · cases h
  · cases h
/-- a map from names to tails: each tail's marks are in the hand of the map alone -/
structure TLAt (w : World) (B b n : Nat) (D : DataW Value) (P : List UInt8 → Option (Nat × List Mk)) (V : List UInt8 → Value) : Prop where
  map : w.ownsMap Tryz.prog 9 tailElem b n D
  val : ∀ k st R, P k = some (st, R) → ∀ z, D.atKey (.string k) z = .held (.agg #[.int .i64 (st : Int), V k])
  key : ∀ k, Maps.has D (.string k) = true ↔ P k ≠ none
  row : ∀ k st R, P k = some (st, R) → w.ownsRow B 187 3 (V k) R.length (kM.flat R)
  apart : ∀ k k', k ≠ k' → P k ≠ none → P k' ≠ none → ∀ g, (V k).ownBlock = some g → (V k').ownBlock ≠ some g
theorem TLAt.made (w : World) (B : Nat) : TLAt (w.alloc (.map #[] 0)) B w.heap.size 0 (.map []) (fun _ => none) (fun _ => .slice none 0 0) where
  map := World.ownsMap_made w _ _ _
  val k st R h := by cases h
  key k := by simp [has_eq]
  row k st R h := by cases h
  apart k k' _ h := by simp at h
theorem TLAt.keep {w w' : World} {B b n : Nat} {D : DataW Value} {P : List UInt8 → Option (Nat × List Mk)} {V : List UInt8 → Value} (h : TLAt w B b n D P V) (hm : w'.ownsMap Tryz.prog 9 tailElem b n D) (hr : ∀ k, P k ≠ none → ∀ g, (V k).ownBlock = some g → w'.heap[g]? = w.heap[g]?) : TLAt w' B b n D P V :=
  ⟨hm, h.val, h.key, (fun k st R hk => row_keep (h.row k st R hk) (hr k (by rw [hk]; simp))), h.apart⟩
theorem TLAt.below {w w' : World} {B b n : Nat} {D : DataW Value} {P : List UInt8 → Option (Nat × List Mk)} {V : List UInt8 → Value} (h : TLAt w B b n D P V) (hb : Below w.heap.size w w') : TLAt w' B b n D P V :=
  h.keep (h.map.kept (grown_of_below hb) (fun e => by cases e)) (fun k hk g hg => by
    cases hq : P k with
    | none => exact absurd hq hk
    | some y => exact hb.block g (row_block (h.row k y.1 y.2 hq) hg).2.1)
theorem ne_mapT {w : World} {B e s n b nn : Nat} {v : Value} {xs : List Value} {D : DataW Value} (hm : w.ownsMap Tryz.prog 9 tailElem b nn D) (hv : w.ownsRow B e s v n xs) {g : Nat} (hg : v.ownBlock = some g) : some g ≠ some b := fun h => by
  obtain ⟨_, _, o, ho, hc⟩ := row_block hv hg
  obtain ⟨es, clock, hb, _⟩ := hm
  rw [Option.some.inj h, hb] at ho
  cases ho
  cases hc
/-- a name's tail written -/
theorem TLAt.set {w : World} {B b n : Nat} {D : DataW Value} {P : List UInt8 → Option (Nat × List Mk)} {V : List UInt8 → Value} (h : TLAt w B b n D P V) (hn : n < maxLen) {s : ByteArray} (hs : s.size ≤ maxLen) (hnew : P s.data.toList = none) {st : Nat} {R : List Mk} {v : Value} (hv : w.ownsRow B 187 3 v R.length (kM.flat R)) (hap : ∀ k, P k ≠ none → ∀ g, (V k).ownBlock = some g → v.ownBlock ≠ some g) :
    ∃ w' D', (Instr.mapUpdate 91 (.map (some b)) (.string s) (.agg #[.int .i64 (st : Int), v])).run Tryz.prog w = .ok () w' ∧ TLAt w' B b (n + 1) D' (fun k => if k = s.data.toList then some (st, R) else P k) (fun k => if k = s.data.toList then v else V k) ∧ w.grownBy w' (some b) := by
  obtain ⟨pv, cv, hv', _⟩ := row_slice hv
  obtain ⟨w', hrun, hmap, hg⟩ := h.map.update (val := .agg #[.int .i64 (st : Int), v]) (d := .held (.agg #[.int .i64 (st : Int), v])) (ps := []) (string_keyed Tryz.underlying9) (t := 91) (e := 98) Tryz.underlying91 hn (keyM hs) (by rw [hv']; rfl)
  refine ⟨w', D.put (.string s.data.toList) (.held (.agg #[.int .i64 (st : Int), v])), hrun, ⟨hmap, fun k st' R' hk z => ?_, fun k => ?_, fun k st' R' hk => ?_, fun k k' hne hk hk' g hgk => ?_⟩, hg⟩
  · by_cases e : k = s.data.toList
    · simp only [if_pos e] at hk ⊢
      cases hk
      subst e
      rw [atKey_put_same h.map.isMap (by trivial)]
    · simp only [if_neg e] at hk ⊢
      rw [atKey_put_other (by simpa using e)]
      exact h.val k st' R' hk z
  · by_cases e : k = s.data.toList
    · subst e; rw [has_put_same h.map.isMap (by trivial)]; simp
    · rw [has_put_other (by simpa using e), h.key]; simp [e]
  · by_cases e : k = s.data.toList
    · simp only [if_pos e] at hk ⊢
      cases hk
      exact row_keep hv fun g hgv => hg.block g (row_block hv hgv).2.1 (ne_mapT h.map hv hgv)
    · simp only [if_neg e] at hk ⊢
      exact row_keep (h.row k st' R' hk) fun g hgv => hg.block g (row_block (h.row k st' R' hk) hgv).2.1 (ne_mapT h.map (h.row k st' R' hk) hgv)
  · by_cases e : k = s.data.toList
    · have e' : k' ≠ s.data.toList := fun e2 => hne (by rw [e, e2])
      simp only [if_pos e] at hgk
      simp only [if_neg e'] at hk' ⊢
      exact fun h2 => hap k' hk' g h2 hgk
    · simp only [if_neg e] at hk hgk
      by_cases e' : k' = s.data.toList
      · simp only [if_pos e']
        exact hap k hk g hgk
      · simp only [if_neg e'] at hk' ⊢
        exact h.apart k k' hne hk hk' g hgk
end Go.Proofs.YtmgnlgobkkfjhaaGreatDoor
