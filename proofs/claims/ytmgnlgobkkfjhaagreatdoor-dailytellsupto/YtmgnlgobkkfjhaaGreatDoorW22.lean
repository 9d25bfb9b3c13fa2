import Derived.Test.YtmgnlgobkkfjhaaGreatDoorW19
import Derived.Test.YtmgnlgobkkfjhaaGreatDoorW06
import Derived.Test.YtmgnlgobkkfjhaaGreatDoorW20
import Derived.Shelf.SlIter.Nil
import Derived.Shelf.SortM.Plain
import Derived.Shelf.SortM.SortNone
import Derived.Ground.GgzProg
import Derived.Ground.SlgmProg
import Derived.Test.YtmgnlgobkkfjhaaGreatDoorProg
import Derived.Sort.KeysCollected
/- daily: appendRows (23). -/
namespace Go.Proofs.YtmgnlgobkkfjhaaGreatDoor
open Go Go.Shelf Go.ChangeShapes Go.WideShapes Go.ChangeAt Go.RowKit Go.Maps
set_option linter.unusedVariables false
attribute [local go_sem ↓] ld82_is
def RowsOut (w0 : World) (L : List Dr) (acc : ByteArray) (S : List Mk) (e : Ending) (w' : World) : Prop :=
  ∃ p' c', e = .returned (.slice p' (L.length + S.length) c') ∧ w'.ownsRow w0.heap.size 38 4 (.slice p' (L.length + S.length) c') (L.length + S.length) (kD.flat (L ++ S.map fun m => (acc, m))) ∧ Below w0.heap.size w0 w'
set_option maxRecDepth 100000 in
set_option maxHeartbeats 4000000 in
theorem rows_any {w0 W : World} (hb : Below w0.heap.size w0 W) {p : Option Addr} {n c : Nat} {L : List Dr} (hn : L.length = n) (hL : W.ownsRow w0.heap.size 38 4 (.slice p n c) n (kD.flat L)) (acc : ByteArray) {q : Option Addr} {m cS : Nat} {S : List Mk} (hm : S.length = m) (hS : Lies kM w0 q S) (hl : n + m ≤ 1099511627776) :
    Calls Tryz.prog 81 #[.slice p n c, .string acc, .slice q m cS] W fun e w' => RowsOut w0 L acc S e w' := by
  have HS := hide hS; have HM := hide hm; have HN := hide hn; have HL := hide hL; have HB := hide hb
  clear hS hm hn hL hb
  go_enter Tryz.func81, Tryz.ntmps81
  go_wp2_with fail
  go_loopw [0, 11] (fun v0 v11 wr => ∃ (j c2 : Nat) (p2 : Option Addr), v11 = .int .i64 j ∧ v0 = .slice p2 (n + j) c2 ∧ j ≤ m ∧ Hid (wr.ownsRow w0.heap.size 38 4 (.slice p2 (n + j) c2) (n + j) (kD.flat (L ++ (S.take j).map fun m => (acc, m))) ∧ Below w0.heap.size w0 wr)) (fun _ v11 _ => m - (intOf v11).toNat)
  case atStart => exact ⟨0, c, p, rfl, rfl, by omega, by simpa using unhide HL, unhide HB⟩
  case round =>
    obtain ⟨j, c2, p2, rfl, rfl, hj, hrel⟩ := hrel
    obtain ⟨hown, hbel⟩ := unhide hrel
    by_cases hjm : j < m
    · have hjS : j < S.length := by rw [unhide HM]; exact hjm
      obtain ⟨bq, oq, eq1, hbq, hrq⟩ := (unhide HS).2 j hjS
      subst eq1
      obtain ⟨x, y, z, hxyz⟩ : ∃ x y z, S[j] = (x, y, z) := ⟨_, _, _, rfl⟩
      have hrw : wr.rangeAt bq (oq + j * 3) [.int .i64 x, .int .i64 y, .int .i64 z] := fun i u hu => by
        rw [hxyz] at hrq
        exact (hbel.cell (p := ⟨bq, oq + j * 3 + i, none⟩) hbq).trans (hrq i u hu)
      have hld := run_ld82 hrw
      obtain ⟨O1, hO1⟩ : ∃ O, O = Obj.cells #[.int .i64 x, .int .i64 y, .int .i64 z] 187 := ⟨_, rfl⟩
      obtain ⟨O2, hO2⟩ : ∃ O, O = Obj.cells #[.string acc, .int .i64 x, .int .i64 y, .int .i64 z] 38 := ⟨_, rfl⟩
      have hb1 : Below w0.heap.size w0 (wr.alloc O1) := hbel.alloc hbel.size _
      have hb2 : Below w0.heap.size w0 ((wr.alloc O1).alloc O2) := hb1.alloc hb1.size _
      have e1 : (wr.alloc O1).heap.size = wr.heap.size + 1 := by simp
      obtain ⟨p', c', w', hr, ho, hb, _, _⟩ := run_app kD_ok (L := L ++ (S.take j).map fun m => (acc, m)) (M := [(acc, x, y, z)]) 22 ((hown.alloc O1).alloc O2) hb2.size (some ⟨wr.heap.size + 1, 0, none⟩) 1 (fun h => by cases h) (by rw [← e1, hO2]; exact one_lies _ (acc, x, y, z) 38 _ rfl) (by simp; omega)
      rw [List.length_singleton] at hr ho
      have hetk : L ++ (S.take (j + 1)).map (fun m => (acc, m)) = L ++ (S.take j).map (fun m => (acc, m)) ++ [(acc, x, y, z)] := by
        rw [List.take_succ_eq_append_getElem hjS, List.map_append, hxyz, List.append_assoc]
        rfl
      have HFIN : Hid (w'.ownsRow w0.heap.size 38 4 (.slice p' (n + (j + 1)) c') (n + (j + 1)) (kD.flat (L ++ (S.take (j + 1)).map fun m => (acc, m))) ∧ Below w0.heap.size w0 w') := by
        refine ⟨?_, hb2.trans hb⟩
        rw [hetk]
        exact ho
      have HR := hide (show (Builtin.append_ #[22, 22] 22 #[.slice p2 (n + j) c2, .slice (some ⟨wr.heap.size + 1, 0, none⟩) 1 1]).run Tryz.prog ((wr.alloc O1).alloc O2) = .ok (.slice p' (n + (j + 1)) c') w' from hr)
      clear hr ho hb hb1 hb2 hetk hown hbel hrq hrw hxyz hrel hjS e1
      subst hO1 hO2
      go_wp2_with (at_builtin; refine wpList_append_run rfl _ _ 22 rfl _ _ _ _ rfl rfl (unhide HR) ?_)
      refine ⟨⟨j + 1, c', p', by simp, rfl, by omega, unhide HFIN⟩, by simp [intOf]; omega⟩
    · have ej : j = m := by omega
      subst ej
      have eS : S.take j = S := List.take_of_length_le (by rw [unhide HM]; omega)
      rw [eS] at hown
      have HFIN : Hid (RowsOut w0 L acc S (.returned (.slice p2 (n + j) c2)) wr) := by
        refine ⟨p2, c2, ?_, ?_, hbel⟩
        · rw [unhide HN, unhide HM]
        · rw [unhide HN, unhide HM]; exact hown
      clear hown hbel hrel eS hjm
      go_wp2_with fail
      go_ret
      exact unhide HFIN
end Go.Proofs.YtmgnlgobkkfjhaaGreatDoor
/- daily: Between (14). -/
namespace Go.Proofs.YtmgnlgobkkfjhaaGreatDoor
open Go Go.RowKit Go.Shelf Go.ChangeShapes Go.WideShapes Go.ChangeAt Go.Maps
set_option linter.unusedVariables false
theorem btw_is {S : List Mk} {fr tt : Int} (hft : fr ≤ tt) {a b : Nat} (ha : a ≤ S.length) (hb : b ≤ S.length) (ha1 : ∀ k, k < a → dayOf S k < fr) (ha2 : ∀ k, a ≤ k → k < S.length → dayOf S k ≥ fr) (hb1 : ∀ k, k < b → dayOf S k ≤ tt) (hb2 : ∀ k, b ≤ k → k < S.length → dayOf S k > tt) : a ≤ b ∧ (S.drop a).take (b - a) = btw S fr tt := by
  have hab : a ≤ b := by
    by_cases h : a ≤ b
    · exact h
    · have h1 := ha1 b (by omega)
      have h2 := hb2 b (Nat.le_refl _) (by omega)
      omega
  refine ⟨hab, ?_⟩
  have e : S = S.take a ++ ((S.drop a).take (b - a) ++ S.drop b) := by
    have : S.drop b = (S.drop a).drop (b - a) := by rw [List.drop_drop]; congr 1; omega
    rw [this, List.take_append_drop, List.take_append_drop]
  have f1 : (S.take a).filter (fun m => decide (fr ≤ m.1) && decide (m.1 ≤ tt)) = [] := List.filter_eq_nil_iff.2 fun m hm => by
    obtain ⟨j, hj, rfl⟩ := List.mem_iff_getElem.1 hm
    rw [List.length_take] at hj
    have := ha1 j (by omega)
    rw [dayOf_lt (show j < S.length by omega)] at this
    rw [List.getElem_take]
    simp
    omega
  have f3 : (S.drop b).filter (fun m => decide (fr ≤ m.1) && decide (m.1 ≤ tt)) = [] := List.filter_eq_nil_iff.2 fun m hm => by
    obtain ⟨j, hj, rfl⟩ := List.mem_iff_getElem.1 hm
    rw [List.length_drop] at hj
    have := hb2 (b + j) (by omega) (by omega)
    rw [dayOf_lt (show b + j < S.length by omega)] at this
    rw [List.getElem_drop]
    simp
    omega
  have f2 : ((S.drop a).take (b - a)).filter (fun m => decide (fr ≤ m.1) && decide (m.1 ≤ tt)) = (S.drop a).take (b - a) := List.filter_eq_self.2 fun m hm => by
    obtain ⟨j, hj, rfl⟩ := List.mem_iff_getElem.1 hm
    rw [List.length_take, List.length_drop] at hj
    have h1 := ha2 (a + j) (by omega) (by omega)
    have h2 := hb1 (a + j) (by omega)
    rw [dayOf_lt (show a + j < S.length by omega)] at h1 h2
    rw [List.getElem_take, List.getElem_drop]
    simp
    omega
  unfold btw
  conv => rhs; rw [e]
  rw [List.filter_append, List.filter_append, f1, f2, f3]
  simp
def BtOut (W : World) (acc : ByteArray) (L : List Mk) (e : Ending) (w' : World) : Prop :=
  ∃ p c, e = .returned (.slice p L.length c) ∧ w'.ownsRow W.heap.size 38 4 (.slice p L.length c) L.length (kD.flat (L.map fun m => (acc, m))) ∧ Below W.heap.size W w'
set_option maxRecDepth 100000 in
set_option maxHeartbeats 4000000 in
theorem btw_any {W : World} {B d n : Nat} {mo : Option Nat} {F : List UInt8 → List Mk} {V : List UInt8 → Value} (hV : DvAt W B d n mo F V) {s : ByteArray} (hs : s.size ≤ maxLen) {T : Td} (hT : Ser T (F s.data.toList)) (hl : (F s.data.toList).length ≤ 1099511627776) (fr tt : Int) :
    Calls Tryz.prog 26 #[.pointer (some ⟨d, 0, none⟩), .string s, .int .i64 fr, .int .i64 tt] W fun e w' => BtOut W s (btw (F s.data.toList) fr tt) e w' := by
  obtain ⟨hc0, hf0⟩ := hV.c0
  have hlk := hV.2.2.look hs
  obtain ⟨S, hS⟩ : ∃ S, S = F s.data.toList := ⟨_, rfl⟩
  rw [← hS] at hT hl ⊢
  by_cases hft : fr > tt
  · have hz : btw S fr tt = [] := List.filter_eq_nil_iff.2 fun m hm => by simp; omega
    have HFIN : Hid (BtOut W s (btw S fr tt) (.returned (.slice none 0 0)) W) := by
      rw [hz]
      exact ⟨none, 0, rfl, World.ownsRow_nil _ _ _ _, Below.refl _ _⟩
    clear hV hlk hT hl hS hz
    go_enter Tryz.func26, Tryz.ntmps26
    go_wp2_with fail
    go_ret
    exact unhide HFIN
  · have hft' : fr ≤ tt := by omega
    obtain ⟨p, c, hv, hp0, hp1⟩ := row_slice (hV.2.2.row s.data.toList)
    rw [← hS] at hv hp0 hp1
    rw [hv] at hlk
    have hli : Lies kM W p S := own_lies kM_ok rfl (by have := hV.2.2.row s.data.toList; rw [hv, ← hS] at this; exact this)
    have dA := hide (ahead_any S hT.up (by omega) p c fr W hli)
    have HLI := hide hli; have HT := hide hT
    obtain ⟨N, hN⟩ : ∃ N, N = S.length := ⟨_, rfl⟩
    have HN := hide hN
    rw [← hN] at dA hlk hl hp0 hp1
    have HP0 := hide hp0; have HP1 := hide hp1
    clear hV hli hT hv hS hN hp0 hp1
    go_enter Tryz.func26, Tryz.ntmps26
    go_wp2_with fail
    refine (unhide dA).mono ?_
    rintro e w1 ⟨a, rfl, ha, ha1, ha2, hb1⟩
    have dU := hide (upto_any S (unhide HT).up (by rw [← unhide HN]; omega) p c tt w1 ((unhide HLI).below hb1))
    rw [← unhide HN] at dU
    have HA1 := hide (And.intro ha1 ha2); have HB1 := hide hb1
    clear ha1 ha2 hb1 dA
    go_wp2_with fail
    refine (unhide dU).mono ?_
    rintro e w2 ⟨b, rfl, hb, hb1', hb2', hb2⟩
    obtain ⟨hab, hbtw⟩ := btw_is hft' (by rw [← unhide HN]; exact ha) (by rw [← unhide HN]; exact hb) (unhide HA1).1 (by rw [← unhide HN]; exact (unhide HA1).2) hb1' (by rw [← unhide HN]; exact hb2')
    have hB2 : Below W.heap.size W w2 := (unhide HB1).trans (hb2.mono (unhide HB1).size)
    have HB2 := hide hB2; have HBT := hide hbtw
    have dR : Hid (∀ (q : Option Addr) (m cS : Nat) (L' : List Mk), Lies kM w2 q L' → L'.length = m → L' = btw S fr tt → Calls Tryz.prog 81 #[.slice none 0 0, .string s, .slice q m cS] w2 fun e w' => BtOut W s (btw S fr tt) e w') := fun q m cS L' h1 h2 h3 => by
      have hm : m ≤ 1099511627776 := by
        rw [← h2, h3]
        have := List.length_filter_le (fun m : Mk => decide (fr ≤ m.1) && decide (m.1 ≤ tt)) S
        unfold btw
        rw [← unhide HN] at this
        omega
      refine (rows_any (w0 := w2) (W := w2) (Below.refl _ _) (L := []) (n := 0) rfl (World.ownsRow_nil _ _ _ _) s (cS := cS) h2 h1 (by omega)).mono ?_
      rintro e w' ⟨p', c', rfl, h5, h6⟩
      subst h3
      rw [List.length_nil, Nat.zero_add] at h5 ⊢
      rw [List.nil_append] at h5
      exact ⟨p', c', rfl, row_le h5 (unhide HB2).size, (unhide HB2).trans (h6.mono (unhide HB2).size)⟩
    have HL2 := hide ((unhide HLI).below hB2)
    clear hb1' hb2' hb2 hB2 hbtw dU
    have hSl : Hid (S.length = N) := (unhide HN).symm
    cases p with
    | none =>
      obtain ⟨h1, h2⟩ := unhide HP0 rfl
      subst h1 h2
      have hb0 : b = 0 := by omega
      have ha0 : a = 0 := by omega
      subst hb0 ha0
      have hS0 : S = [] := List.eq_nil_of_length_eq_zero (unhide hSl)
      have dQ := hide (unhide dR none 0 0 [] (Lies.nil _ _) rfl (by rw [hS0]; rfl))
      clear dR hS0
      go_wp2_with fail
      refine (unhide dQ).mono ?_
      intro e w' hO
      obtain ⟨pO, cO, rfl, hO2⟩ := hO
      have HO := hide hO2
      clear hO2 dQ
      go_wp2_with fail
      go_ret
      exact ⟨pO, cO, rfl, unhide HO⟩
    | some ad =>
      obtain ⟨h1, h2, _, hNc⟩ := unhide HP1 ad rfl
      obtain ⟨bS, oS, sS⟩ := ad
      simp only at h1 h2
      subst h1 h2
      by_cases hca : c = a
      · subst hca
        have hbc : b = c := by omega
        subst hbc
        have hz : (S.drop b).take (b - b) = [] := by simp
        have dQ := hide (unhide dR (some ⟨bS, 0, none⟩) 0 0 [] (Lies.nil _ _) rfl (by rw [← unhide HBT, hz]))
        clear dR hz
        go_wp2_with fail
        refine (unhide dQ).mono ?_
        intro e w' hO
        obtain ⟨pO, cO, rfl, hO2⟩ := hO
        have HO := hide hO2
        clear hO2 dQ
        go_wp2_with fail
        go_ret
        exact ⟨pO, cO, rfl, unhide HO⟩
      · have hpt := (unhide HL2).part a (b - a)
        have hlen : ((S.drop a).take (b - a)).length = b - a := by rw [List.length_take, List.length_drop, unhide hSl]; omega
        have dQ := hide (unhide dR (some ⟨bS, 0 + a * 3, none⟩) (b - a) (c - a) _ hpt hlen (unhide HBT))
        rw [Nat.zero_add] at dQ
        clear dR hpt hlen
        go_wp2_with fail
        refine (unhide dQ).mono ?_
        intro e w' hO
        obtain ⟨pO, cO, rfl, hO2⟩ := hO
        have HO := hide hO2
        clear hO2 dQ
        go_wp2_with fail
        go_ret
        exact ⟨pO, cO, rfl, unhide HO⟩
end Go.Proofs.YtmgnlgobkkfjhaaGreatDoor
namespace Go.Proofs
open Go.RowKit Go.Maps Go.Sort Go.Shelf

def Tryz.keys22_ren : Go.Shelf.Ren := ⟨fun | 7 => 80 | 10 => 162 | n => n, fun | 23 => 78 | 26 => 9 | 3 => 96 | 28 => 107 | 0 => 0 | 27 => 106 | 33 => 110 | 4 => 4 | n => n, fun | n => n⟩
theorem Tryz.keys80 : Go.Proofs.SlLaysZ.n7 Tryz.prog Tryz.keys22_ren := {
  mixed := by kernel_rfl
  f7 := ⟨Tryz.f80.name, by decide, Tryz.func80.trans (congrArg some (by kernel_rfl))⟩
  f10 := ⟨Tryz.f162.name, by decide, Tryz.func162.trans (congrArg some (by kernel_rfl))⟩
  t0 := Tryz.underlying0
  a0 := Tryz.isAgg0
  z0 := Tryz.sizeOf0
  v0 := Tryz.zeroValue0
  t4 := Tryz.underlying4
  a4 := Tryz.isAgg4
  z4 := Tryz.sizeOf4
  v4 := Tryz.zeroValue4
  t23 := Tryz.underlying78
  a23 := Tryz.isAgg78
  z23 := Tryz.sizeOf78
  v23 := Tryz.zeroValue78
  t26 := Tryz.underlying9
  a26 := Tryz.isAgg9
  z26 := Tryz.sizeOf9
  v26 := Tryz.zeroValue9
  t27 := Tryz.underlying106
  a27 := Tryz.isAgg106
  z27 := Tryz.sizeOf106
  v27 := Tryz.zeroValue106
  t28 := Tryz.underlying107
  a28 := Tryz.isAgg107
  z28 := Tryz.sizeOf107
  v28 := Tryz.zeroValue107
  t33 := Tryz.underlying110
  a33 := Tryz.isAgg110
  z33 := Tryz.sizeOf110
  v33 := Tryz.zeroValue110 }
def Tryz.sorted21_ren : Go.Shelf.Ren := ⟨fun | 6 => 79 | 8 => 160 | 9 => 161 | 11 => 217 | 13 => 219 | 12 => 218 | 23 => 263 | 24 => 264 | 14 => 254 | 15 => 255 | 16 => 256 | 17 => 257 | 18 => 258 | 19 => 259 | 20 => 260 | 21 => 261 | 22 => 262 | 25 => 280 | 26 => 281 | 27 => 282 | 28 => 283 | 29 => 284 | 30 => 285 | 31 => 300 | n => n, fun | 26 => 9 | 28 => 107 | 24 => 104 | 0 => 0 | 3 => 3 | 37 => 261 | 48 => 306 | 50 => 188 | 4 => 4 | 40 => 299 | 39 => 298 | 45 => 303 | 5 => 5 | 9 => 9 | 51 => 318 | 55 => 322 | 57 => 331 | 58 => 332 | 33 => 110 | n => n, fun | n => n⟩
theorem Tryz.sorted79 : Go.Proofs.SlLaysZ.n6 Tryz.prog Tryz.sorted21_ren := {
  mixed := by kernel_rfl
  f6 := ⟨Tryz.f79.name, by decide, Tryz.func79.trans (congrArg some (by kernel_rfl))⟩
  f8 := ⟨Tryz.f160.name, by decide, Tryz.func160.trans (congrArg some (by kernel_rfl))⟩
  f11 := ⟨Tryz.f217.name, by decide, Tryz.func217.trans (congrArg some (by kernel_rfl))⟩
  t0 := Tryz.underlying0
  a0 := Tryz.isAgg0
  z0 := Tryz.sizeOf0
  v0 := Tryz.zeroValue0
  t24 := Tryz.underlying104
  a24 := Tryz.isAgg104
  z24 := Tryz.sizeOf104
  v24 := Tryz.zeroValue104
  t26 := Tryz.underlying9
  a26 := Tryz.isAgg9
  z26 := Tryz.sizeOf9
  v26 := Tryz.zeroValue9
  t28 := Tryz.underlying107
  a28 := Tryz.isAgg107
  z28 := Tryz.sizeOf107
  v28 := Tryz.zeroValue107
  i26 := by kernel_rfl }
def Tryz.sort35_ren : Go.Shelf.Ren := ⟨fun | 6 => 161 | 8 => 219 | 9 => 218 | 19 => 263 | 20 => 264 | 21 => 254 | 22 => 255 | 23 => 256 | 24 => 257 | 25 => 258 | 26 => 259 | 27 => 260 | 28 => 261 | 29 => 262 | 36 => 280 | 31 => 281 | 32 => 282 | 37 => 283 | 38 => 284 | 39 => 285 | 41 => 300 | n => n, fun | 27 => 104 | 29 => 9 | 3 => 3 | 32 => 261 | 26 => 104 | 0 => 0 | 44 => 306 | 46 => 188 | 4 => 4 | 36 => 299 | 35 => 298 | 41 => 303 | 5 => 5 | 9 => 9 | 53 => 318 | 57 => 322 | 63 => 331 | 64 => 332 | n => n, fun | n => n⟩
theorem Tryz.sort161 : Go.Proofs.SlLaysM.n6 Tryz.prog Tryz.sort35_ren := {
  mixed := by kernel_rfl
  f6 := ⟨Tryz.f161.name, by decide, Tryz.func161.trans (congrArg some (by kernel_rfl))⟩
  f8 := Tryz.func219.trans (congrArg some (by kernel_rfl))
  f9 := ⟨Tryz.f218.name, by decide, Tryz.func218.trans (congrArg some (by kernel_rfl))⟩
  f19 := Tryz.func263.trans (congrArg some (by kernel_rfl))
  f20 := Tryz.func264.trans (congrArg some (by kernel_rfl))
  f21 := ⟨Tryz.f254.name, by decide, Tryz.func254.trans (congrArg some (by kernel_rfl))⟩
  f22 := ⟨Tryz.f255.name, by decide, Tryz.func255.trans (congrArg some (by kernel_rfl))⟩
  f23 := ⟨Tryz.f256.name, by decide, Tryz.func256.trans (congrArg some (by kernel_rfl))⟩
  f24 := ⟨Tryz.f257.name, by decide, Tryz.func257.trans (congrArg some (by kernel_rfl))⟩
  f25 := ⟨Tryz.f258.name, by decide, Tryz.func258.trans (congrArg some (by kernel_rfl))⟩
  f26 := ⟨Tryz.f259.name, by decide, Tryz.func259.trans (congrArg some (by kernel_rfl))⟩
  f27 := ⟨Tryz.f260.name, by decide, Tryz.func260.trans (congrArg some (by kernel_rfl))⟩
  f28 := ⟨Tryz.f261.name, by decide, Tryz.func261.trans (congrArg some (by kernel_rfl))⟩
  f29 := ⟨Tryz.f262.name, by decide, Tryz.func262.trans (congrArg some (by kernel_rfl))⟩
  f31 := Tryz.func281.trans (congrArg some (by kernel_rfl))
  f32 := Tryz.func282.trans (congrArg some (by kernel_rfl))
  f36 := ⟨Tryz.f280.name, by decide, Tryz.func280.trans (congrArg some (by kernel_rfl))⟩
  f37 := ⟨Tryz.f283.name, by decide, Tryz.func283.trans (congrArg some (by kernel_rfl))⟩
  f38 := ⟨Tryz.f284.name, by decide, Tryz.func284.trans (congrArg some (by kernel_rfl))⟩
  f39 := ⟨Tryz.f285.name, by decide, Tryz.func285.trans (congrArg some (by kernel_rfl))⟩
  f41 := ⟨Tryz.f300.name, by decide, Tryz.func300.trans (congrArg some (by kernel_rfl))⟩
  t0 := Tryz.underlying0
  a0 := Tryz.isAgg0
  z0 := Tryz.sizeOf0
  v0 := Tryz.zeroValue0
  t3 := Tryz.underlying3
  a3 := Tryz.isAgg3
  z3 := Tryz.sizeOf3
  v3 := Tryz.zeroValue3
  t4 := Tryz.underlying4
  a4 := Tryz.isAgg4
  z4 := Tryz.sizeOf4
  v4 := Tryz.zeroValue4
  t5 := Tryz.underlying5
  a5 := Tryz.isAgg5
  z5 := Tryz.sizeOf5
  v5 := Tryz.zeroValue5
  t9 := Tryz.underlying9
  a9 := Tryz.isAgg9
  z9 := Tryz.sizeOf9
  v9 := Tryz.zeroValue9
  t26 := Tryz.underlying104
  a26 := Tryz.isAgg104
  z26 := Tryz.sizeOf104
  v26 := Tryz.zeroValue104
  t27 := Tryz.underlying104
  a27 := Tryz.isAgg104
  z27 := Tryz.sizeOf104
  v27 := Tryz.zeroValue104
  t29 := Tryz.underlying9
  a29 := Tryz.isAgg9
  z29 := Tryz.sizeOf9
  v29 := Tryz.zeroValue9
  t32 := Tryz.underlying261
  a32 := Tryz.isAgg261
  z32 := Tryz.sizeOf261
  v32 := Tryz.zeroValue261
  t35 := Tryz.underlying298
  a35 := Tryz.isAgg298
  z35 := Tryz.sizeOf298
  v35 := Tryz.zeroValue298
  t36 := Tryz.underlying299
  a36 := Tryz.isAgg299
  z36 := Tryz.sizeOf299
  v36 := Tryz.zeroValue299
  t41 := Tryz.underlying303
  a41 := Tryz.isAgg303
  z41 := Tryz.sizeOf303
  v41 := Tryz.zeroValue303
  t44 := Tryz.underlying306
  a44 := Tryz.isAgg306
  z44 := Tryz.sizeOf306
  v44 := Tryz.zeroValue306
  t46 := Tryz.underlying188
  a46 := Tryz.isAgg188
  z46 := Tryz.sizeOf188
  v46 := Tryz.zeroValue188
  t53 := Tryz.underlying318
  a53 := Tryz.isAgg318
  z53 := Tryz.sizeOf318
  v53 := Tryz.zeroValue318
  t57 := Tryz.underlying322
  a57 := Tryz.isAgg322
  z57 := Tryz.sizeOf322
  v57 := Tryz.zeroValue322
  t63 := Tryz.underlying331
  a63 := Tryz.isAgg331
  z63 := Tryz.sizeOf331
  v63 := Tryz.zeroValue331
  t64 := Tryz.underlying332
  a64 := Tryz.isAgg332
  z64 := Tryz.sizeOf332
  v64 := Tryz.zeroValue332 }

theorem Tryz.sorts79 (m : Nat) : AnyZ.SortsIn Tryz.prog Tryz.sorted21_ren Fence.wide m :=
  ⟨fun blk off cap ss W hH hblk hsz => callsIn_wide.2 (AnyM.slices_Sort_string Tryz.sort161 blk off cap ss W hH hblk hsz),
   fun p cap W => callsIn_wide.2 (AnyM.slices_Sort_string_none Tryz.sort161 p cap W)⟩

theorem Tryz.maps_Keys_80 (mb : Option Nat) (W : World) : CallsIn Fence.wide 5 Tryz.prog 80 #[.map mb] W fun e w' => e = .returned (.func (.func 162) #[] #[.pointer (some ⟨W.heap.size, 0, none⟩)]) ∧ w' = W.alloc (.cells #[.map mb] 78) :=
  AnyZ.keys_in Tryz.keys80 Fence.wide 5 trivial rfl mb W

set_option maxHeartbeats 1000000 in
theorem Tryz.slices_Sorted_keys_79_80 {H : Type} (b nn : Nat) (D0 : DataW H) (R : Value → Option (DataW H × List MemPlace)) (w : World) (hown : w.ownsMap Tryz.prog 9 R b nn D0) (hmax : Maps.size D0 ≤ maxLen) (hbytes : Maps.size D0 * 16 ≤ 140737488355328) :
    CallsIn Fence.wide 5 Tryz.prog 79 #[.func (.func 162) #[] #[.pointer (some ⟨w.heap.size, 0, none⟩)]] (w.alloc (.cells #[.map (some b)] 78)) fun e w' => ∃ (v : Value) (ss : List (List UInt8)), e = .returned v ∧ ss.Perm (strKeys D0) ∧
      w'.ownsRow (w.alloc (.cells #[.map (some b)] 78)).heap.size 9 1 v ss.length ((ss.mergeSort (fun x y => decide (x ≤ y))).map encStr) ∧ (v = .slice none 0 0 ↔ ss = []) ∧ Below (w.alloc (.cells #[.map (some b)] 78)).heap.size (w.alloc (.cells #[.map (some b)] 78)) w' := by
  have hbl := hown.lt
  have hseq : SeqGives Fence.wide 2 Tryz.prog 162 #[.pointer (some ⟨w.heap.size, 0, none⟩)] encStr (fun ss => ss.Perm (strKeys D0)) (Maps.size D0) (w.alloc (.cells #[.map (some b)] 78)) :=
    AnyZ.keys_gives (ρ := Tryz.keys22_ren) { Tryz.keys80 with } Fence.wide _ trivial rfl (by omega) w.heap.size b nn D0 _ (by simp) (by simp) (by
      obtain ⟨es, clock, hb, Ft, hs, hD⟩ := hown
      exact ⟨es, clock, (Below.heap_alloc _ _ b hbl).trans hb, Ft, hs, hD⟩)
  exact AnyZ.sorted_in Tryz.sorted79 Fence.wide 5 trivial trivial trivial trivial rfl (by omega) (Tryz.sorts79 _) (enters_of Tryz.func161 (by kernel_rfl) rfl) 162 #[.pointer (some ⟨w.heap.size, 0, none⟩)] trivial (enters_of Tryz.func162 (by kernel_rfl) rfl) _ _ hmax hbytes _ hseq

set_option maxHeartbeats 1000000 in
theorem Tryz.slices_Sorted_keys_nil_79_80 (w : World) :
    CallsIn Fence.wide 5 Tryz.prog 79 #[.func (.func 162) #[] #[.pointer (some ⟨w.heap.size, 0, none⟩)]] (w.alloc (.cells #[.map none] 78)) fun e w' => ∃ (v : Value) (ss : List (List UInt8)), e = .returned v ∧ ss = [] ∧
      w'.ownsRow (w.alloc (.cells #[.map none] 78)).heap.size 9 1 v ss.length ((ss.mergeSort (fun x y => decide (x ≤ y))).map encStr) ∧ (v = .slice none 0 0 ↔ ss = []) ∧ Below (w.alloc (.cells #[.map none] 78)).heap.size (w.alloc (.cells #[.map none] 78)) w' := by
  have hseq : SeqGives Fence.wide 2 Tryz.prog 162 #[.pointer (some ⟨w.heap.size, 0, none⟩)] encStr (fun ss : List (List UInt8) => ss = []) 0 (w.alloc (.cells #[.map none] 78)) :=
    AnyZ.keys_gives_nil (ρ := Tryz.keys22_ren) { Tryz.keys80 with } Fence.wide _ trivial rfl w.heap.size _ (by simp) (by simp)
  exact AnyZ.sorted_in Tryz.sorted79 Fence.wide 5 trivial trivial trivial trivial rfl (by omega) (Tryz.sorts79 _) (enters_of Tryz.func161 (by kernel_rfl) rfl) 162 #[.pointer (some ⟨w.heap.size, 0, none⟩)] trivial (enters_of Tryz.func162 (by kernel_rfl) rfl) _ 0 (Nat.zero_le _) (by omega) _ hseq



end Go.Proofs
/- daily: State (10). -/
namespace Go.Proofs.YtmgnlgobkkfjhaaGreatDoor
open Go Go.Shelf Go.ChangeShapes Go.WideShapes Go.ChangeAt Go.RowKit Go.Maps Go.Sort
set_option linter.unusedVariables false
theorem stl_append (F : List UInt8 → List Mk) (a b : List (List UInt8)) : stl F (a ++ b) = stl F a ++ stl F b := List.flatMap_append
theorem strKeys_mem {H : Type} {R : Value → Option (DataW H × List MemPlace)} {w : World} {b n : Nat} {D : DataW H} (h : w.ownsMap Tryz.prog 9 R b n D) : (strKeys D).Nodup ∧ ∀ x, x ∈ strKeys D ↔ has D (.string x) = true := by
  obtain ⟨es, he, hp⟩ := h.tidy (string_keyed Tryz.underlying9)
  obtain ⟨es', he', hk⟩ := h.keysOf
  rw [he] at he'
  injection he' with he'
  subst he'
  subst he
  have hs : ∀ p ∈ es, ∃ x, p.1 = .string x := fun p hp => by
    obtain ⟨key, hkey⟩ := hk p hp
    obtain ⟨x, _, hx, _⟩ := Maps.keyOf_str Tryz.underlying9 hkey
    exact ⟨x, hx⟩
  have e : strKeys (.map es : DataW H) = es.map (fun p => strOf p.1) := rfl
  rw [e]
  clear hk h e
  constructor
  · rw [List.nodup_iff_pairwise_ne, List.pairwise_map]
    refine List.Pairwise.imp_of_mem ?_ hp
    intro p q hpm hqm hne e
    obtain ⟨x, hx⟩ := hs p hpm
    obtain ⟨y, hy⟩ := hs q hqm
    rw [hx, hy] at e
    simp only [strOf] at e
    exact hne (by rw [hx, hy, e])
  · intro x
    rw [has_eq, List.mem_map, List.any_eq_true]
    constructor
    · rintro ⟨p, hpm, rfl⟩
      obtain ⟨y, hy⟩ := hs p hpm
      exact ⟨p, hpm, by rw [hy]; simp [strOf, Lit.sameKey]⟩
    · rintro ⟨p, hpm, hq⟩
      obtain ⟨y, hy⟩ := hs p hpm
      refine ⟨p, hpm, ?_⟩
      rw [hy] at hq ⊢
      simpa [strOf, Lit.sameKey] using hq
def kS : Kd (List UInt8) := ⟨fun k => [encStr k], 1, 104, 9, 16⟩
theorem kS_ok : KdOK kS := kd_ok (fun _ => rfl) (by decide) (fun x u hu => by simp [kS] at hu; subst hu; rfl) Tryz.underlying104 (z := .string ⟨#[]⟩) (by kernel_rfl) rfl (by decide)
theorem kS_flat (l : List (List UInt8)) : kS.flat l = l.map encStr := by
  induction l with
  | nil => rfl
  | cons a l ih =>
    have e : kS.flat (a :: l) = [encStr a] ++ kS.flat l := rfl
    rw [e, ih]
    rfl
theorem zero55 (w : World) : (zeroValue 96).run Tryz.prog w = .ok (.slice none 0 0) w := by kernel_rfl
/-- what State hands out -/
def StOut (W : World) (F : List UInt8 → List Mk) (e : Ending) (w' : World) : Prop :=
  ∃ ss p c, ss.Nodup ∧ (∀ k, k ∈ ss ↔ F k ≠ []) ∧ e = .returned (.slice p (stl F (srt ss)).length c) ∧ w'.ownsRow W.heap.size 38 4 (.slice p (stl F (srt ss)).length c) (stl F (srt ss)).length (kD.flat (stl F (srt ss))) ∧ Below W.heap.size W w'
set_option maxRecDepth 100000 in
set_option maxHeartbeats 4000000 in
theorem state_any {W : World} {B d n : Nat} {mo : Option Nat} {F : List UInt8 → List Mk} {V : List UInt8 → Value} (hV : DvAt W B d n mo F V) (hB : B ≤ W.heap.size) (hn : n ≤ 1099511627776) (hlen : ∀ k, F k ≠ [] → k.length ≤ maxLen) (hT : ∀ ss : List (List UInt8), ss.Nodup → (stl F ss).length ≤ 1099511627776) :
    Calls Tryz.prog 18 #[.pointer (some ⟨d, 0, none⟩)] W fun e w' => StOut W F e w' := by
  obtain ⟨hc0, hf0⟩ := hV.c0
  have hdW : d < W.heap.size := Nat.lt_of_lt_of_le hV.2.1 hB
  have dK := hide ((callsIn_wide (n := 5)).1 (Tryz.maps_Keys_80 mo W))
  have hbA : Below W.heap.size W (W.alloc (.cells #[.map mo] 78)) := bal (Below.refl _ _) _
  have dS : Hid (Calls Tryz.prog 79 #[.func (.func 162) #[] #[.pointer (some ⟨W.heap.size, 0, none⟩)]] (W.alloc (.cells #[.map mo] 78)) fun e w' => ∃ (v : Value) (ss : List (List UInt8)), e = .returned v ∧ (ss.Nodup ∧ ∀ k, k ∈ ss ↔ F k ≠ []) ∧
      w'.ownsRow W.heap.size 9 1 v ss.length ((srt ss).map encStr) ∧ Below W.heap.size W w') := by
    rcases hV.2.2 with ⟨rfl, hF0, _⟩ | ⟨b, D, rfl, _, hA⟩
    · refine ((callsIn_wide (n := 5)).1 (Tryz.slices_Sorted_keys_nil_79_80 W)).mono ?_
      rintro e w' ⟨v, ss, rfl, rfl, hrow, _, hb⟩
      exact ⟨v, [], rfl, ⟨List.nodup_nil, fun k => by simp [hF0]⟩, row_le hrow hbA.size, hbA.trans (hb.mono hbA.size)⟩
    · have hsz : Maps.size D ≤ n := hA.map.size_le
      have hkm := strKeys_mem hA.map
      refine ((callsIn_wide (n := 5)).1 (Tryz.slices_Sorted_keys_79_80 b n D sliceElem W hA.map (by unfold maxLen; omega) (by omega))).mono ?_
      rintro e w' ⟨v, ss, rfl, hS, hrow, _, hb⟩
      exact ⟨v, ss, rfl, ⟨hS.nodup_iff.2 hkm.1, fun k => by rw [hS.mem_iff, hkm.2, hA.key]⟩, row_le hrow hbA.size, hbA.trans (hb.mono hbA.size)⟩
  have HV := hide hV; have HLEN := hide hlen; have HT := hide hT; have HDW := hide hdW
  clear hV hlen hT hbA
  go_enter Tryz.func18, Tryz.ntmps18
  go_wp2_with fail
  refine (unhide dK).mono ?_
  rintro e wx ⟨rfl, hwx⟩
  rw [hwx]
  clear hwx wx dK
  go_wp2_with fail
  refine (unhide dS).mono ?_
  rintro e w1 ⟨v, ss, rfl, hss, hrow, hb1⟩
  obtain ⟨pn, cn, hvn, hpn0, hpn1⟩ := row_slice hrow
  subst hvn
  obtain ⟨N, hN⟩ : ∃ N, N = ss.length := ⟨_, rfl⟩
  have hNN : (srt ss).length = N := by rw [hN]; exact (srt_perm ss).length_eq
  obtain ⟨nn, hnn⟩ : ∃ nn, nn = srt ss := ⟨_, rfl⟩
  rw [← hnn] at hrow hNN
  rw [← hN] at hrow ⊢
  have hnd : nn.Nodup := by rw [hnn]; exact (srt_perm ss).nodup_iff.2 hss.1
  have hnm : ∀ k ∈ nn, F k ≠ [] := fun k hk => (hss.2 k).1 ((srt_perm ss).mem_iff.1 (by rw [← hnn]; exact hk))
  have hNb : N ≤ 9223372036854775807 := by
    rcases hrow.2 with ⟨_, h2⟩ | ⟨g, cap, cur, _, _, _, h3, h4, _⟩
    · omega
    · unfold maxLen at h4; omega
  have HSS := hide hss; have HROW := hide hrow; have HB1 := hide hb1; have HNN := hide hNN; have HND := hide hnd; have HNM := hide hnm; have HNS := hide hnn
  clear hss hrow hb1 hpn0 hpn1 hN dS hNN hnd hnm hnn
  go_wp2_with fail
  go_loopw [3, 13] (fun v3 v13 wr => ∃ (j m c3 : Nat) (p3 : Option Addr), v13 = .int .i64 j ∧ v3 = .slice p3 m c3 ∧ j ≤ N ∧ Hid ((stl F (nn.take j)).length = m ∧ wr.ownsRow w1.heap.size 38 4 (.slice p3 m c3) m (kD.flat (stl F (nn.take j))) ∧ Below w1.heap.size w1 wr)) (fun _ v13 _ => N - (intOf v13).toNat)
  case atStart => exact ⟨0, 0, 0, none, rfl, rfl, by omega, rfl, World.ownsRow_nil _ _ _ _, Below.refl _ _⟩
  case round =>
    obtain ⟨j, m, c3, p3, rfl, rfl, hj, hrel⟩ := hrel
    obtain ⟨hm, hown, hbel⟩ := unhide hrel
    by_cases hjN : j < N
    · have hjn : j < nn.length := by rw [unhide HNN]; exact hjN
      obtain ⟨k, hk⟩ : ∃ k, k = nn[j] := ⟨_, rfl⟩
      have hkm : k ∈ nn := by rw [hk]; exact List.getElem_mem hjn
      have hFk := unhide HNM k hkm
      have hls : Lies kS w1 pn nn := own_lies kS_ok (unhide HNN) (by rw [kS_flat]; exact unhide HROW)
      obtain ⟨gn, on, epn, hgn, hrn⟩ := hls.2 j hjn
      subst epn
      have hcn : wr.cell? ⟨gn, on + j, none⟩ = some (.string ⟨k.toArray⟩) := by
        have h1 := hrn 0 (encStr nn[j]) rfl
        rw [← hk] at h1
        have h2 := (hbel.cell (p := ⟨gn, on + j, none⟩) hgn).trans (by simpa [kS] using h1)
        exact h2
      obtain ⟨b, D, hmo, hA⟩ : ∃ b D, mo = some b ∧ MSAt kM W B b n D F V := by
        rcases (unhide HV).2.2 with ⟨_, hF0, _⟩ | ⟨b, D, e, _, hA⟩
        · exact absurd (hF0 k) hFk
        · exact ⟨b, D, e, hA⟩
      subst hmo
      have hA1 := hA.below (unhide HB1)
      have hA2 := hA1.below hbel
      have hs : (⟨k.toArray⟩ : ByteArray).size ≤ maxLen := by
        have := unhide HLEN k hFk
        show k.toArray.size ≤ maxLen
        simpa using this
      have hkk : (⟨k.toArray⟩ : ByteArray).data.toList = k := by simp
      have hlk := hA2.look (t := 78) und46 (zero55 wr) hs
      rw [hkk] at hlk
      have hcd : wr.cell? ⟨d, 0, none⟩ = some (.map (some b)) := by
        have hz1 := (unhide HB1).size
        exact (hbel.cell (p := ⟨d, 0, none⟩) (by have := unhide HDW; show d < _; omega)).trans (((unhide HB1).cell (p := ⟨d, 0, none⟩) (unhide HDW)).trans hc0)
      obtain ⟨q, cS, hvS, _, _⟩ := row_slice (hA1.row k)
      rw [hvS] at hlk
      obtain ⟨mS, hmS⟩ : ∃ mS, (F k).length = mS := ⟨_, rfl⟩
      have hlS : Lies kM w1 q (F k) := own_lies kM_ok rfl (by rw [← hvS]; exact hA1.row k)
      rw [hmS] at hlk
      have etk : nn.take (j + 1) = nn.take j ++ [k] := by rw [List.take_succ_eq_append_getElem hjn, hk]
      have estl : stl F (nn.take (j + 1)) = stl F (nn.take j) ++ (F k).map (fun m => (⟨k.toArray⟩, m)) := by
        rw [etk, stl_append]
        simp [stl]
      have hbnd : m + mS ≤ 1099511627776 := by
        have h1 := unhide HT (nn.take (j + 1)) ((unhide HND).sublist (List.take_sublist _ _))
        rw [estl, List.length_append, List.length_map, hm, hmS] at h1
        exact h1
      have dR := hide (rows_any hbel hm hown ⟨k.toArray⟩ (cS := cS) hmS hlS hbnd)
      have HUP : Hid (∀ e w', RowsOut w1 (stl F (nn.take j)) ⟨k.toArray⟩ (F k) e w' → ∃ p' c', e = .returned (.slice p' (m + mS) c') ∧ (stl F (nn.take (j + 1))).length = m + mS ∧ w'.ownsRow w1.heap.size 38 4 (.slice p' (m + mS) c') (m + mS) (kD.flat (stl F (nn.take (j + 1)))) ∧ Below w1.heap.size w1 w') := fun e w' ⟨p', c', h1, h2, h3⟩ => by
        rw [hm, hmS] at h1 h2
        refine ⟨p', c', h1, ?_, ?_, h3⟩
        · rw [estl, List.length_append, List.length_map, hm, hmS]
        · rw [estl]; exact h2
      clear hm hown hbel hrel hls hrn hA hA1 hA2 hlS etk estl hkm hFk hs hkk hvS hk hmS hjn
      go_wp2_with fail
      refine (unhide dR).mono ?_
      intro e w' hO
      obtain ⟨p', c', rfl, h2, h3, h4⟩ := unhide HUP e w' hO
      have HF := hide (And.intro h2 (And.intro h3 h4))
      clear hO h2 h3 h4 dR HUP
      go_wp2_with fail
      refine ⟨⟨j + 1, m + mS, c', p', by simp, rfl, by omega, unhide HF⟩, by simp [intOf]; omega⟩
    · have ej : j = N := by omega
      subst ej
      have eT : nn.take j = nn := List.take_of_length_le (by rw [unhide HNN]; omega)
      rw [eT] at hm hown
      have HFIN : Hid (StOut W F (.returned (.slice p3 m c3)) wr) := by
        refine ⟨ss, p3, c3, (unhide HSS).1, (unhide HSS).2, ?_, ?_, (unhide HB1).trans (hbel.mono (unhide HB1).size)⟩
        · rw [← unhide HNS, hm]
        · rw [← unhide HNS, hm]; exact row_le hown (unhide HB1).size
      clear hm hown hbel hrel eT hjN
      go_wp2_with fail
      go_ret
      exact unhide HFIN
end Go.Proofs.YtmgnlgobkkfjhaaGreatDoor
