import Derived.Test.YtcafhmlpmbkhkaaGreatDoorQ01
import Derived.Test.YtcafhmlpmbkhkaaGreatDoorW38
import Derived.Maps.OwnRows
import Derived.Maps.OwnSet
import Derived.Maps.Views
import Derived.Maps.GroupsBeside
import Derived.StringKeys
import Derived.Test.YtcafhmlpmbkhkaaGreatDoorW09
import Derived.Test.YtcafhmlpmbkhkaaGreatDoorQ05
import Derived.Test.YtcafhmlpmbkhkaaGreatDoorW35
namespace Go.Proofs.YtcafhmlpmbkhkaaGreatDoor
open Go Go.Shelf Go.ChangeShapes Go.WideShapes Go.ChangeAt Go.RowKit Go.Maps
set_option linter.unusedVariables false
set_option linter.unusedSimpArgs false
def fits64 (z : Int) : Prop := -9223372036854775808 ≤ z ∧ z ≤ 9223372036854775807
def litS (s : ByteArray) : Lit := .string s.data.toList
def datN (zs : List Int) : DataW Unit := if zs = [] then .nil else .slice (lits .i64 zs) []
theorem keyed9 : Keyed Tryz.prog 9 := string_keyed Tryz.underlying9
theorem und148 : Tryz.prog.underlying 148 = some (.map 9 92) := Tryz.underlying148
theorem litS_inj {s t : ByteArray} (h : litS s = litS t) : s = t := by
  unfold litS at h
  injection h with h
  apply ByteArray.ext
  exact Array.toList_inj.1 h
theorem keyS_of {s : ByteArray} (hs : s.size ≤ maxLen) : keyOf Tryz.prog 9 (.string s) = some (litS s) := Go.WideMaps.keyOf_string_mk Tryz.underlying9 hs
def Gp (W : World) (base b n : Nat) (F : ByteArray → List Int) : Prop :=
  ∃ D : DataW Unit, W.ownsGroups Tryz.prog 9 base 2 .i64 b n D ∧ IsMap D ∧ ∀ s, D.atKey (litS s) .nil = datN (F s)
def updF (F : ByteArray → List Int) (s : ByteArray) (z : Int) (t : ByteArray) : List Int := if t = s then F s ++ [z] else F t
theorem Gp.made (W : World) : Gp (W.alloc (.map #[] 0)) (W.heap.size + 1) W.heap.size 0 (fun _ => []) :=
  ⟨.map [], World.ownsGroups_made W _ _ _ _, isMap_empty, fun s => rfl⟩
theorem lit_inj : ∀ {a b : List Int}, (a.map fun n => (DataW.lit (.int .i64 n) : DataW Unit)) = b.map (fun n => .lit (.int .i64 n)) → a = b
  | [], [], _ => rfl
  | [], _ :: _, h => by cases h
  | _ :: _, [], h => by cases h
  | x :: a, y :: b, h => by
    simp only [List.map_cons, List.cons.injEq] at h
    obtain ⟨h1, h2⟩ := h
    injection h1 with h1
    injection h1 with _ h1
    rw [h1, lit_inj h2]
theorem datN_row {v : Value} {zs : List Int} {l : List Int} (h : datN l = rowDatum .i64 v zs) (hv : ∀ n c, v = .slice none n c → zs = []) (hs : ∃ p n c, v = .slice p n c) : zs = l := by
  obtain ⟨p, n, c, rfl⟩ := hs
  cases p with
  | none =>
    have hz := hv n c rfl
    subst hz
    unfold datN at h
    by_cases hl : l = []
    · exact hl.symm
    · rw [if_neg hl] at h
      cases h
  | some a =>
    unfold datN at h
    by_cases hl : l = []
    · rw [if_pos hl] at h
      cases h
    · rw [if_neg hl] at h
      have h2 : (DataW.slice (lits .i64 l) [] : DataW Unit) = .slice (lits .i64 zs) [] := h
      injection h2 with h3 _
      unfold lits at h3
      exact (lit_inj h3).symm
set_option maxRecDepth 100000 in
theorem Gp.look {W : World} {base b n : Nat} {F : ByteArray → List Int} (h : Gp W base b n F) (s : ByteArray) (hs : s.size ≤ maxLen) (hn : n < maxLen) :
    ∃ v, (Instr.lookup 148 (.map (some b)) (.string s) false).run Tryz.prog W = .ok v W ∧ W.ownsRow base 2 1 v (F s).length (kN.flat (F s)) ∧ (∀ z ∈ F s, fits64 z) ∧ (F s).length ≤ n ∧
      ∀ w1 v' z, W.grownBy w1 v.ownBlock → w1.ownsRow base 2 1 v' ((F s).length + 1) (kN.flat (F s ++ [z])) → fits64 z → (v'.ownBlock = v.ownBlock ∨ ∃ g, v'.ownBlock = some g ∧ W.heap.size ≤ g) →
        ∃ w2, (Instr.mapUpdate 148 (.map (some b)) (.string s) v').run Tryz.prog w1 = .ok () w2 ∧ Gp w2 base b (n + 1) (updF F s z) ∧ w1.grownBy w2 (some b) := by
  obtain ⟨D, hg, hD, hF⟩ := h
  obtain ⟨v, zs, hrun, hat, ho, hl, hback⟩ := hg.at keyed9 und148 (Tryz.zeroValue92 W) hn (keyS_of hs)
  rw [hF s] at hat
  have hsl := row_slice ho.1
  have ez : zs = F s := by
    refine datN_row hat (fun n c e => ?_) ?_
    · obtain ⟨p, c', e1, h1, _⟩ := hsl
      rw [e] at e1
      injection e1 with e2 _ _
      exact List.eq_nil_of_length_eq_zero (h1 e2.symm).1
    · obtain ⟨p, c', e1, _⟩ := hsl
      exact ⟨p, _, c', e1⟩
  subst ez
  have hwf : ∀ z : Int, (Lit.int .i64 z).wf = true ↔ fits64 z := fun z => by
    unfold fits64
    simp [Lit.wf, IntKind.min, IntKind.max, IntKind.signed, IntKind.bits]
  refine ⟨v, hrun, by rw [kN_flat]; exact ho.1, fun z hz => (hwf z).1 (ho.2 z hz), hl, fun w1 v' z hgr ho' hz hloc => ?_⟩
  have hoi : w1.ownsInts base 2 .i64 v' (F s ++ [z]) := by
    refine ⟨?_, fun y hy => ?_⟩
    · rw [List.length_append, List.length_singleton, ← kN_flat]
      exact ho'
    · rcases List.mem_append.1 hy with hy | hy
      · exact ho.2 y hy
      · rw [List.mem_singleton] at hy
        subst hy
        exact (hwf _).2 hz
  obtain ⟨w2, hr2, hg2, hgr2⟩ := hback w1 v' _ hgr hoi (by rw [List.length_append, List.length_singleton]; omega) hloc
  refine ⟨w2, hr2, ⟨_, hg2, ?_, fun t => ?_⟩, hgr2⟩
  · exact hD.put _ _
  · have hv0 : ∀ n c, v' ≠ .slice none n c := fun n c e => by
      obtain ⟨p, c', e1, h1, _⟩ := row_slice ho'
      rw [e] at e1
      injection e1 with e2 _ _
      have := (h1 e2.symm).1
      omega
    obtain ⟨p, c', e1, _⟩ := row_slice ho'
    have hd : (rowDatum .i64 v' (F s ++ [z]) : DataW Unit) = datN (F s ++ [z]) := by
      subst e1
      cases p with
      | none => exact absurd rfl (hv0 _ _)
      | some a =>
        unfold datN
        rw [if_neg (by simp)]
        rfl
    by_cases e : t = s
    · subst e
      rw [atKey_put_same hD (keyed9.key (keyS_of hs)), hd]
      unfold updF
      rw [if_pos rfl]
    · rw [atKey_put_other (fun e2 => e (litS_inj e2)), hF t]
      unfold updF
      rw [if_neg e]
theorem Gp.made2 (W : World) (base : Nat) (hb : W.heap.size < base) : Gp (W.alloc (.map #[] 0)) base W.heap.size 0 (fun _ => []) := by
  obtain ⟨es, clock, h1, h2, h3, h4, _, h6, h7⟩ := World.ownsGroups_made (H := Unit) W Tryz.prog 9 2 .i64
  obtain ⟨D, hg, hD, hF⟩ := Gp.made W
  have e : W.heap.size < (W.alloc (.map #[] 0)).heap.size := by simp
  have hm : (W.alloc (.map #[] 0)).heap[W.heap.size]? = some (.map #[] 0) := heap_new _ _
  rw [hm] at h1
  injection h1 with h1
  injection h1 with h1 h1'
  subst h1 h1'
  exact ⟨.map [], ⟨#[], 0, hm, ⟨by simp, MapKept.stamped_empty 0, by simp⟩, Nat.le_refl _, rfl, hb, by simp, by simp⟩, isMap_empty, fun s => rfl⟩
theorem Gp.mono {W : World} {base b n m : Nat} {F : ByteArray → List Int} (h : Gp W base b n F) (hm : n ≤ m) : Gp W base b m F := by
  obtain ⟨D, ⟨es, clock, h1, h2, h3, h4, h5, h6, h7⟩, hD, hF⟩ := h
  exact ⟨D, ⟨es, clock, h1, h2, Nat.le_trans h3 hm, h4, h5, fun x hx zs hz => Nat.le_trans (h6 x hx zs hz) hm, h7⟩, hD, hF⟩
theorem Gp.keep {W W' : World} {base b n : Nat} {F : ByteArray → List Int} (h : Gp W base b n F) {row : Option Nat} (hg : W.grownBy W' row) (hb : some b ≠ row) (hr : ∀ j, row = some j → j < base) : Gp W' base b n F := by
  obtain ⟨D, h1, hD, hF⟩ := h
  exact ⟨D, h1.kept hg hb (h1.rowsAbove hr), hD, hF⟩
theorem grown_of {W W' : World} (h : Below W.heap.size W W') : W.grownBy W' none := ⟨h.os, h.tape, h.output, h.size, fun k hk _ => h.block k hk⟩
theorem Gp.below {W W' : World} {base b n : Nat} {F : ByteArray → List Int} (h : Gp W base b n F) (hb : Below W.heap.size W W') : Gp W' base b n F := h.keep (grown_of hb) (by simp) (fun j hj => by cases hj)
theorem Gp.lt {W : World} {base b n : Nat} {F : ByteArray → List Int} (h : Gp W base b n F) : b < W.heap.size := by
  obtain ⟨D, ⟨es, clock, h1, _⟩, _⟩ := h
  exact (Array.getElem?_eq_some_iff.1 h1).1
set_option maxRecDepth 100000 in
theorem Gp.looks {W : World} {base b n : Nat} {F : ByteArray → List Int} (h : Gp W base b n F) (s : ByteArray) (hs : s.size ≤ maxLen) {v : Value} (hv : (Instr.lookup 148 (.map (some b)) (.string s) false).run Tryz.prog W = .ok v W) :
    ∀ V : World, V.heap[b]? = W.heap[b]? → (Instr.lookup 148 (.map (some b)) (.string s) false).run Tryz.prog V = .ok v V := fun V hV => by
  obtain ⟨D, ⟨es, clock, hb, FF, _⟩, _⟩ := h
  have hbV := hV.trans hb
  have huniq : ∀ x ∈ es.toList, ∀ y ∈ es.toList, x.key = .string s → y.key = .string s → x = y := fun x hx y hy hxk hyk => by
    have hap := fit_apart keyed9 FF
    obtain ⟨i, hi, rfl⟩ := List.mem_iff_getElem.1 hx
    obtain ⟨j, hj, rfl⟩ := List.mem_iff_getElem.1 hy
    have hk : ∀ z ∈ es.toList, z.key = .string s → (WideElems.rg Tryz.prog 9 (rowElem (H := Unit) W base 2 .i64) z).1 = litS s := fun z hz hzk => by
      obtain ⟨q, hq⟩ := FF.reads z hz
      have m1 := WideElems.rd_key hq
      rw [hzk, keyS_of hs] at m1
      rw [WideElems.rg_of hq]
      exact (Option.some.inj m1).symm
    rcases Nat.lt_trichotomy i j with h1 | h1 | h1
    · have h2 := List.pairwise_iff_getElem.1 hap i j (by simpa using hi) (by simpa using hj) h1
      simp only [List.getElem_map] at h2
      exact absurd ((hk _ hx hxk).trans (hk _ hy hyk).symm) h2
    · subst h1; rfl
    · have h2 := List.pairwise_iff_getElem.1 hap j i (by simpa using hj) (by simpa using hi) h1
      simp only [List.getElem_map] at h2
      exact absurd ((hk _ hy hyk).trans (hk _ hx hxk).symm) h2
  rcases fit_look false keyed9 und148 (Tryz.zeroValue92 W) hb FF (keyS_of hs) with ⟨r1, n1, _⟩ | ⟨e0, y0, m0, k0, r1, _⟩
  · rw [hv] at r1
    rcases fit_look false keyed9 und148 (Tryz.zeroValue92 V) hbV FF (keyS_of hs) with ⟨r2, _, _⟩ | ⟨e1, y1, m1, k1, _⟩
    · injection r1 with r1
      rw [r2, r1]
    · exact absurd k1 (n1 e1 m1)
  · rw [hv] at r1
    rcases fit_look false keyed9 und148 (Tryz.zeroValue92 V) hbV FF (keyS_of hs) with ⟨_, n2, _⟩ | ⟨e1, y1, m1, k1, r2, _⟩
    · exact absurd k0 (n2 e0 m0)
    · have e := huniq e0 m0 e1 m1 k0 k1
      injection r1 with r1
      rw [r2, r1, e]
end Go.Proofs.YtcafhmlpmbkhkaaGreatDoor
namespace Go.Proofs.YtcafhmlpmbkhkaaGreatDoor
open Go Go.Shelf Go.ChangeShapes Go.WideShapes Go.ChangeAt Go.RowKit Go.Maps
set_option linter.unusedVariables false
structure Po where
  seq : Int
  lin : Int
  day : Int
  kin : Int
  key : ByteArray
  acc : ByteArray
  amt : Int
  tag : ByteArray
  mem : ByteArray
def Po.vals (x : Po) : List Value := [.int .i64 x.seq, .int .i64 x.lin, .int .i64 x.day, .int .i64 x.kin, .string x.key, .string x.acc, .int .i64 x.amt, .string x.tag, .string x.mem]
def kU : Kd Po := ⟨Po.vals, 9, 56, 63, 104⟩
theorem kU_ok : KdOK kU := kd_ok (fun _ => rfl) (by decide) (fun x u hu => by simp [kU, Po.vals] at hu; rcases hu with rfl | rfl | rfl | rfl | rfl | rfl | rfl | rfl | rfl <;> rfl) Tryz.underlying56 (z := .agg #[.int .i64 0, .int .i64 0, .int .i64 0, .int .i64 0, .string ⟨#[]⟩, .string ⟨#[]⟩, .int .i64 0, .string ⟨#[]⟩, .string ⟨#[]⟩]) (by kernel_rfl) rfl (by decide)
def ldU (x : Value) : Sem Value := Instr.loadAt 63 x
theorem ldU_is (x : Value) : Instr.loadAt 63 x = ldU x := rfl
theorem sizU : (Tryz.prog.info? 63).map (·.size) = some 9 := by kernel_rfl
def cvU (x : Po) : Value := .agg #[.int .i64 x.seq, .int .i64 x.lin, .int .i64 x.day, .int .i64 x.kin, .string x.key, .string x.acc, .int .i64 x.amt, .string x.tag, .string x.mem]
theorem run_ldU {w : World} {b o : Nat} {x : Po} (h : w.rangeAt b o x.vals) : (ldU (.pointer (some ⟨b, o, none⟩))).run Tryz.prog w = .ok (cvU x) w :=
  run_loadAt_mid (P := Tryz.prog) w b o 63 x.vals _ h Tryz.underlying63 rfl sizU
def obU (x : Po) : Obj := .cells #[.int .i64 x.seq, .int .i64 x.lin, .int .i64 x.day, .int .i64 x.kin, .string x.key, .string x.acc, .int .i64 x.amt, .string x.tag, .string x.mem] 63
theorem ld_varU (w : World) (x : Po) {W : World} (hb : Below (w.alloc (obU x)).heap.size (w.alloc (obU x)) W) : (ldU (.pointer (some ⟨w.heap.size, 0, none⟩))).run Tryz.prog W = .ok (cvU x) W := by
  refine run_ldU fun j u hu => ?_
  rw [Nat.zero_add]
  have h1 : (w.alloc (obU x)).cell? ⟨w.heap.size, j, none⟩ = some u := by
    have := cell_at (i := j) (heap_new w (obU x))
    rw [this]
    simpa [Po.vals] using hu
  exact keep1 hb (by simp) h1
theorem Lies.ldU {W : World} {p : Option Addr} {L : List Po} (h : Lies kU W p L) {k : Nat} (hk : k < L.length) : ∃ b o, p = some ⟨b, o, none⟩ ∧ b < W.heap.size ∧ (ldU (.pointer (some ⟨b, o + k * 9, none⟩))).run Tryz.prog W = .ok (cvU L[k]) W := by
  obtain ⟨b, o, e, hb, hr⟩ := h.2 k hk
  exact ⟨b, o, e, hb, run_ldU hr⟩
end Go.Proofs.YtcafhmlpmbkhkaaGreatDoor
namespace Go.Proofs.YtcafhmlpmbkhkaaGreatDoor
open Go Go.Shelf Go.ChangeShapes Go.WideShapes Go.ChangeAt Go.RowKit Go.Maps
set_option linter.unusedVariables false
set_option linter.unusedSimpArgs false
attribute [local go_sem ↓] ldU_is
def fstU (f : Po → Int) : List Po → Int
  | [] => 0
  | x :: l => if f x = 0 then fstU f l else f x
theorem fstU_pre (f : Po → Int) : ∀ (A B : List Po), (∀ x ∈ A, f x = 0) → fstU f (A ++ B) = fstU f B
  | [], _, _ => rfl
  | a :: A, B, h => by
    rw [List.cons_append, fstU, if_pos (h a (by simp))]
    exact fstU_pre f A B (fun x hx => h x (by simp [hx]))
theorem fstU_all {f : Po → Int} {A : List Po} (h : ∀ x ∈ A, f x = 0) : fstU f A = 0 := by
  have := fstU_pre f A [] h
  rwa [List.append_nil] at this
theorem fstU_zero {f : Po → Int} : ∀ {A : List Po}, fstU f A = 0 → ∀ x ∈ A, f x = 0
  | a :: A, h, x, hx => by
    rw [fstU] at h
    by_cases ha : f a = 0
    · rw [if_pos ha] at h
      rcases List.mem_cons.1 hx with rfl | hx
      · exact ha
      · exact fstU_zero h x hx
    · rw [if_neg ha] at h
      exact absurd h ha
set_option maxRecDepth 100000 in
set_option maxHeartbeats 8000000 in
theorem fltU {w : World} {p : Option Addr} {n c : Nat} {X : List Po} (hX : X.length = n) (hL : Lies kU w p X) {g : Nat} (eg : ∀ args w, (callFunc g args).run Tryz.prog w = .ok (.enter g args) w) {cap : Array Value} (hcap : cap = #[] ∨ ∃ v, cap = #[v]) {f : Po → Int} {ok : Po → Prop} (hok : ∀ x ∈ X, ok x)
    (hfn : ∀ x W, ok x → Below w.heap.size w W → Calls Tryz.prog g (#[cvU x] ++ cap) W fun e w' => e = .returned (.int .i64 (f x)) ∧ Below W.heap.size W w') (hn : n ≤ 30000000000000) :
    Calls Tryz.prog 174 #[.slice p n c, .func (.func g) #[] cap] w fun e w' => e = .returned (.int .i64 (fstU f X)) ∧ Below w.heap.size w w' := by
  have HX := hide hX; have HL := hide hL; have HOK := hide hok; have HFN := hide hfn
  clear hX hL hok hfn
  rcases hcap with rfl | ⟨cvv, rfl⟩
  · go_enter Tryz.func174, Tryz.ntmps174
    go_wp2_with fail
    go_loopw [10] (fun iv wr => ∃ (k : Nat) (K : Int), k ≤ n ∧ iv = .int .i64 K ∧ K = (k : Int) ∧ Hid ((∀ x ∈ X.take k, f x = 0) ∧ Below w.heap.size w wr)) (fun iv _ => ((n : Int) - intOf iv).toNat)
    case atStart => exact ⟨0, 0, by omega, rfl, rfl, (fun x hx => by simp at hx), Below.refl _ _⟩
    case round =>
      obtain ⟨wo, rfl⟩ : ∃ x, x = wr := ⟨wr, rfl⟩
      obtain ⟨k, K, hk, rfl, hK, HA⟩ := hrel
      by_cases hlt : k < n
      · have hI : K < (n : Int) := by omega
        have hK0 : 0 ≤ K := by omega
        have hKt : K.toNat = k := by omega
        have hkX : k < X.length := by have := unhide HX; omega
        obtain ⟨b, o, ep, hb, hld⟩ := ((unhide HL).below' (unhide HA).2).ldU hkX
        obtain ⟨x, hx⟩ : ∃ x, x = X[k] := ⟨_, rfl⟩
        rw [← hx] at hld
        have hxm : x ∈ X := by rw [hx]; exact List.getElem_mem hkX
        have HTK : Hid (X.take (k + 1) = X.take k ++ [x]) := by show _ = _; rw [List.take_succ_eq_append_getElem hkX, ← hx]
        have HDR : Hid (X = X.take k ++ x :: X.drop (k + 1)) := by have := (List.take_append_drop k X).symm; rw [List.drop_eq_getElem_cons hkX, ← hx] at this; exact this
        subst ep
        obtain ⟨w1, hw1⟩ : ∃ w1, w1 = wo.alloc (obU x) := ⟨_, rfl⟩
        have b1 : Below w.heap.size w w1 := (unhide HA).2.trans (by rw [hw1]; exact (bal (Below.refl _ _) _).mono (unhide HA).2.size)
        have hlv : (ldU (.pointer (some ⟨wo.heap.size, 0, none⟩))).run Tryz.prog w1 = .ok (cvU x) w1 := by rw [hw1]; exact ld_varU wo x (Below.refl _ _)
        have d : Calls Tryz.prog g #[cvU x] w1 fun e w' => e = .returned (.int .i64 (f x)) ∧ Below w1.heap.size w1 w' := unhide HFN x w1 (unhide HOK x hxm) b1
        have HK := hide hK; have HB1 := hide b1
        obtain ⟨vx, hvx⟩ : ∃ v, v = cvU x := ⟨_, rfl⟩
        obtain ⟨fx, hfx⟩ : ∃ z, z = f x := ⟨_, rfl⟩
        rw [← hvx] at hlv d
        rw [← hfx] at d
        have D := hide d
        have HFX := hide hfx
        have hw1' : wo.alloc (.cells #[.int .i64 x.seq, .int .i64 x.lin, .int .i64 x.day, .int .i64 x.kin, .string x.key, .string x.acc, .int .i64 x.amt, .string x.tag, .string x.mem] 63) = w1 := by rw [hw1]; rfl
        unfold cvU at hld
        have HPRE := hide (unhide HA).1
        clear b1 hw1 hkX hlt hK hvx hxm hx HA d hfx
        by_cases hz : fx = 0
        · subst hz
          go_wp2_with fail
          refine (unhide D).mono ?_
          rintro e w3 ⟨rfl, hb3⟩
          have HE : Hid ((∀ x ∈ X.take (k + 1), f x = 0) ∧ Below w.heap.size w w3) := by
            refine ⟨fun y hy => ?_, (unhide HB1).trans (hb3.mono (unhide HB1).size)⟩
            rw [unhide HTK, List.mem_append, List.mem_singleton] at hy
            rcases hy with hy | rfl
            · exact unhide HPRE y hy
            · exact (unhide HFX).symm
          clear hb3 hld hlv hw1'
          go_wp2_with fail
          exact ⟨⟨k + 1, K + 1, by have := unhide HK; omega, by go_num, by have := unhide HK; omega, unhide HE⟩, by have := unhide HK; simp [intOf]; omega⟩
        · have hzb : (fx == 0) = false := beq_eq_false_iff_ne.2 hz
          have hzn : (fx != 0) = true := by rw [bne_iff_ne]; exact hz
          go_wp2_with fail
          refine (unhide D).mono ?_
          rintro e w3 ⟨rfl, hb3⟩
          have HE : Hid (Ending.returned (.int .i64 fx) = .returned (.int .i64 (fstU f X)) ∧ Below w.heap.size w w3) := by
            refine ⟨?_, (unhide HB1).trans (hb3.mono (unhide HB1).size)⟩
            rw [unhide HDR, fstU_pre f _ _ (unhide HPRE), fstU, ← unhide HFX, if_neg hz]
          clear hb3 hld hlv hw1'
          go_wp2_with fail
          go_ret
          exact unhide HE
      · have hI : ¬ K < (n : Int) := by omega
        have HE : Hid (Ending.returned (.int .i64 0) = .returned (.int .i64 (fstU f X)) ∧ Below w.heap.size w wo) := by
          refine ⟨?_, (unhide HA).2⟩
          have h1 := (unhide HA).1
          rw [List.take_of_length_le (by have := unhide HX; omega)] at h1
          rw [fstU_all h1]
        clear HA hK
        go_wp2_with fail
        go_ret
        exact unhide HE
  · go_enter Tryz.func174, Tryz.ntmps174
    go_wp2_with fail
    go_loopw [10] (fun iv wr => ∃ (k : Nat) (K : Int), k ≤ n ∧ iv = .int .i64 K ∧ K = (k : Int) ∧ Hid ((∀ x ∈ X.take k, f x = 0) ∧ Below w.heap.size w wr)) (fun iv _ => ((n : Int) - intOf iv).toNat)
    case atStart => exact ⟨0, 0, by omega, rfl, rfl, (fun x hx => by simp at hx), Below.refl _ _⟩
    case round =>
      obtain ⟨wo, rfl⟩ : ∃ x, x = wr := ⟨wr, rfl⟩
      obtain ⟨k, K, hk, rfl, hK, HA⟩ := hrel
      by_cases hlt : k < n
      · have hI : K < (n : Int) := by omega
        have hK0 : 0 ≤ K := by omega
        have hKt : K.toNat = k := by omega
        have hkX : k < X.length := by have := unhide HX; omega
        obtain ⟨b, o, ep, hb, hld⟩ := ((unhide HL).below' (unhide HA).2).ldU hkX
        obtain ⟨x, hx⟩ : ∃ x, x = X[k] := ⟨_, rfl⟩
        rw [← hx] at hld
        have hxm : x ∈ X := by rw [hx]; exact List.getElem_mem hkX
        have HTK : Hid (X.take (k + 1) = X.take k ++ [x]) := by show _ = _; rw [List.take_succ_eq_append_getElem hkX, ← hx]
        have HDR : Hid (X = X.take k ++ x :: X.drop (k + 1)) := by have := (List.take_append_drop k X).symm; rw [List.drop_eq_getElem_cons hkX, ← hx] at this; exact this
        subst ep
        obtain ⟨w1, hw1⟩ : ∃ w1, w1 = wo.alloc (obU x) := ⟨_, rfl⟩
        have b1 : Below w.heap.size w w1 := (unhide HA).2.trans (by rw [hw1]; exact (bal (Below.refl _ _) _).mono (unhide HA).2.size)
        have hlv : (ldU (.pointer (some ⟨wo.heap.size, 0, none⟩))).run Tryz.prog w1 = .ok (cvU x) w1 := by rw [hw1]; exact ld_varU wo x (Below.refl _ _)
        have d : Calls Tryz.prog g #[cvU x, cvv] w1 fun e w' => e = .returned (.int .i64 (f x)) ∧ Below w1.heap.size w1 w' := unhide HFN x w1 (unhide HOK x hxm) b1
        have HK := hide hK; have HB1 := hide b1
        obtain ⟨vx, hvx⟩ : ∃ v, v = cvU x := ⟨_, rfl⟩
        obtain ⟨fx, hfx⟩ : ∃ z, z = f x := ⟨_, rfl⟩
        rw [← hvx] at hlv d
        rw [← hfx] at d
        have D := hide d
        have HFX := hide hfx
        have hw1' : wo.alloc (.cells #[.int .i64 x.seq, .int .i64 x.lin, .int .i64 x.day, .int .i64 x.kin, .string x.key, .string x.acc, .int .i64 x.amt, .string x.tag, .string x.mem] 63) = w1 := by rw [hw1]; rfl
        unfold cvU at hld
        have HPRE := hide (unhide HA).1
        clear b1 hw1 hkX hlt hK hvx hxm hx HA d hfx
        by_cases hz : fx = 0
        · subst hz
          go_wp2_with fail
          refine (unhide D).mono ?_
          rintro e w3 ⟨rfl, hb3⟩
          have HE : Hid ((∀ x ∈ X.take (k + 1), f x = 0) ∧ Below w.heap.size w w3) := by
            refine ⟨fun y hy => ?_, (unhide HB1).trans (hb3.mono (unhide HB1).size)⟩
            rw [unhide HTK, List.mem_append, List.mem_singleton] at hy
            rcases hy with hy | rfl
            · exact unhide HPRE y hy
            · exact (unhide HFX).symm
          clear hb3 hld hlv hw1'
          go_wp2_with fail
          exact ⟨⟨k + 1, K + 1, by have := unhide HK; omega, by go_num, by have := unhide HK; omega, unhide HE⟩, by have := unhide HK; simp [intOf]; omega⟩
        · have hzb : (fx == 0) = false := beq_eq_false_iff_ne.2 hz
          have hzn : (fx != 0) = true := by rw [bne_iff_ne]; exact hz
          go_wp2_with fail
          refine (unhide D).mono ?_
          rintro e w3 ⟨rfl, hb3⟩
          have HE : Hid (Ending.returned (.int .i64 fx) = .returned (.int .i64 (fstU f X)) ∧ Below w.heap.size w w3) := by
            refine ⟨?_, (unhide HB1).trans (hb3.mono (unhide HB1).size)⟩
            rw [unhide HDR, fstU_pre f _ _ (unhide HPRE), fstU, ← unhide HFX, if_neg hz]
          clear hb3 hld hlv hw1'
          go_wp2_with fail
          go_ret
          exact unhide HE
      · have hI : ¬ K < (n : Int) := by omega
        have HE : Hid (Ending.returned (.int .i64 0) = .returned (.int .i64 (fstU f X)) ∧ Below w.heap.size w wo) := by
          refine ⟨?_, (unhide HA).2⟩
          have h1 := (unhide HA).1
          rw [List.take_of_length_le (by have := unhide HX; omega)] at h1
          rw [fstU_all h1]
        clear HA hK
        go_wp2_with fail
        go_ret
        exact unhide HE
def faultU (L : List Ch.Ac) (r : Po) : Int := if (Ch.fnd L r.acc.data.toList).isSome = false then 61 else if isDb r.day = false then 20 else if r.amt = -9223372036854775808 then 10 else 0
theorem u_cells {W : World} {b : Nat} {x : Po} (h : W.heap[b]? = some (obU x)) : W.cell? ⟨b, 2, none⟩ = some (.int .i64 x.day) ∧ W.cell? ⟨b, 5, none⟩ = some (.string x.acc) ∧ W.cell? ⟨b, 6, none⟩ = some (.int .i64 x.amt) := by
  unfold obU at h
  refine ⟨?_, ?_, ?_⟩ <;> (rw [cell_at h]; rfl)
set_option maxRecDepth 100000 in
set_option maxHeartbeats 4000000 in
theorem rowFault_any {w : World} {d : Nat} {S : Nat → Prop} {L : List Ch.Ac} {g : Ch.Gh} (h : Ch.Ct w d S L g) (x : Po) (hs : x.acc.size < 4611686018427387904) (hn : -9223372036854775808 ≤ x.amt) : Calls Tryz.prog 176 #[.pointer (some ⟨d, 0, none⟩), cvU x] w fun e w' => e = .returned (.int .i64 (faultU L x)) ∧ Below w.heap.size w w' := by
  obtain ⟨w0, hw0⟩ : ∃ W, W = w.alloc (obU x) := ⟨_, rfl⟩
  have b1 : Below w.heap.size w w0 := by rw [hw0]; exact bal (Below.refl _ _) _
  have hh0 : w0.heap[w.heap.size]? = some (obU x) := by rw [hw0]; exact heap_new _ _
  obtain ⟨c2, c5, c6⟩ := u_cells hh0
  have hw0' : w.alloc (.cells #[.int .i64 x.seq, .int .i64 x.lin, .int .i64 x.day, .int .i64 x.kin, .string x.key, .string x.acc, .int .i64 x.amt, .string x.tag, .string x.mem] 63) = w0 := by rw [hw0]; rfl
  have HB := hide b1
  have HC : Hid (∀ W, Below w0.heap.size w0 W → W.cell? ⟨w.heap.size, 2, none⟩ = some (.int .i64 x.day) ∧ W.cell? ⟨w.heap.size, 5, none⟩ = some (.string x.acc) ∧ W.cell? ⟨w.heap.size, 6, none⟩ = some (.int .i64 x.amt)) := fun W hb => u_cells ((hb.block _ (Array.getElem?_eq_some_iff.1 hh0).1).trans hh0)
  have D1 := hide (Ch.find_any (h.below b1) x.acc hs)
  obtain ⟨fb, hfb⟩ : ∃ b, b = (Ch.fnd L x.acc.data.toList).isSome := ⟨_, rfl⟩
  rw [← hfb] at D1
  obtain ⟨A0, hA0⟩ : ∃ A, A = Ch.findA L x.acc.data.toList := ⟨_, rfl⟩
  rw [← hA0] at D1
  unfold Ch.acV Ch.ptr at D1
  obtain ⟨db, hdb⟩ : ∃ b, b = isDb x.day := ⟨_, rfl⟩
  have DD : Hid (∀ W, Calls Tryz.prog 75 #[.int .i64 x.day] W fun e w' => e = .returned (.bool db) ∧ w' = W) := fun W => by rw [hdb]; exact isDay_any x.day W
  unfold cvU
  have HFB := hide hfb; have HDB := hide hdb
  clear b1 hw0 hs h hfb hdb hA0 hh0
  cases fb with
  | false =>
    have HE : Hid (faultU L x = 61) := by show _ = _; unfold faultU; rw [if_pos (unhide HFB).symm]
    go_enter Tryz.func176, Tryz.ntmps176
    go_wp2_with fail
    refine (unhide D1).mono ?_
    rintro e w1 ⟨rfl, hb⟩
    have HB1 : Hid (Below w.heap.size w w1) := (unhide HB).trans (hb.mono (unhide HB).size)
    clear hb D1 c2 c5 c6
    go_wp2_with fail
    go_ret
    exact ⟨by rw [unhide HE]; rfl, bal (unhide HB1) _⟩
  | true =>
    cases db with
    | false =>
      have HE : Hid (faultU L x = 20) := by show _ = _; unfold faultU; rw [← unhide HFB, ← unhide HDB]; rfl
      go_enter Tryz.func176, Tryz.ntmps176
      go_wp2_with fail
      refine (unhide D1).mono ?_
      rintro e w1 ⟨rfl, hb⟩
      obtain ⟨w2, hw2⟩ : ∃ W, W = w1.alloc (.cells #[.string (Ch.txN A0.nm), .int .i64 A0.ty, .int .i64 A0.dy, .bool A0.cl] 139) := ⟨_, rfl⟩
      have hb02 : Below w0.heap.size w0 w2 := by rw [hw2]; exact hb.trans ((bal (Below.refl _ _) _).mono hb.size)
      have HB2 : Hid (Below w.heap.size w w2) := (unhide HB).trans (hb02.mono (unhide HB).size)
      obtain ⟨e2, e5, e6⟩ := unhide HC w2 hb02
      have hw2' := hw2.symm
      have DD2 := hide (unhide DD w2)
      clear hb D1 c2 c5 c6 hw2 hb02 hw0'
      go_wp2_with (go_at_call 75; refine (unhide DD2).mono ?_; rintro e wz ⟨rfl, hwz⟩; rw [hwz]; clear hwz wz)
      go_ret
      exact ⟨by rw [unhide HE]; rfl, unhide HB2⟩
    | true =>
      by_cases hm : x.amt = -9223372036854775808
      · have HE : Hid (faultU L x = 10) := by show _ = _; unfold faultU; rw [← unhide HFB, ← unhide HDB, hm]; rfl
        rw [hm] at c6 HC hw0' ⊢
        go_enter Tryz.func176, Tryz.ntmps176
        go_wp2_with fail
        refine (unhide D1).mono ?_
        rintro e w1 ⟨rfl, hb⟩
        obtain ⟨w2, hw2⟩ : ∃ W, W = w1.alloc (.cells #[.string (Ch.txN A0.nm), .int .i64 A0.ty, .int .i64 A0.dy, .bool A0.cl] 139) := ⟨_, rfl⟩
        have hb02 : Below w0.heap.size w0 w2 := by rw [hw2]; exact hb.trans ((bal (Below.refl _ _) _).mono hb.size)
        have HB2 : Hid (Below w.heap.size w w2) := (unhide HB).trans (hb02.mono (unhide HB).size)
        obtain ⟨e2, e5, e6⟩ := unhide HC w2 hb02
        have hw2' := hw2.symm
        have DD2 := hide (unhide DD w2)
        clear hb D1 c2 c5 c6 hw2 hb02 hw0'
        go_wp2_with first | (go_at_call 75; refine (unhide DD2).mono ?_; rintro e wz ⟨rfl, hwz⟩; rw [hwz]; clear hwz wz) | (go_at_call 164; refine (chk_no _).mono ?_; rintro e wz ⟨rfl, hwz⟩; rw [hwz]; clear hwz wz)
        go_ret
        exact ⟨by rw [unhide HE]; rfl, unhide HB2⟩
      · have HE : Hid (faultU L x = 0) := by show _ = _; unfold faultU; rw [← unhide HFB, ← unhide HDB, if_neg hm]; rfl
        have hm2 : -9223372036854775807 ≤ x.amt := by omega
        go_enter Tryz.func176, Tryz.ntmps176
        go_wp2_with fail
        refine (unhide D1).mono ?_
        rintro e w1 ⟨rfl, hb⟩
        obtain ⟨w2, hw2⟩ : ∃ W, W = w1.alloc (.cells #[.string (Ch.txN A0.nm), .int .i64 A0.ty, .int .i64 A0.dy, .bool A0.cl] 139) := ⟨_, rfl⟩
        have hb02 : Below w0.heap.size w0 w2 := by rw [hw2]; exact hb.trans ((bal (Below.refl _ _) _).mono hb.size)
        have HB2 : Hid (Below w.heap.size w w2) := (unhide HB).trans (hb02.mono (unhide HB).size)
        obtain ⟨e2, e5, e6⟩ := unhide HC w2 hb02
        have hw2' := hw2.symm
        have DD2 := hide (unhide DD w2)
        clear hb D1 c2 c5 c6 hw2 hb02 hw0'
        have DK := hide (chk_yes x.amt w2 hm2)
        go_wp2_with first | (go_at_call 75; refine (unhide DD2).mono ?_; rintro e wz ⟨rfl, hwz⟩; rw [hwz]; clear hwz wz) | (go_at_call 164; refine (unhide DK).mono ?_; rintro e wz ⟨rfl, hwz⟩; rw [hwz]; clear hwz wz)
        go_ret
        exact ⟨by rw [unhide HE]; rfl, unhide HB2⟩
set_option maxRecDepth 100000 in
set_option maxHeartbeats 4000000 in
theorem row_clo {w : World} {d : Nat} {S : Nat → Prop} {L : List Ch.Ac} {g : Ch.Gh} (h : Ch.Ct w d S L g) (x : Po) (hs : x.acc.size < 4611686018427387904) (hn : -9223372036854775808 ≤ x.amt) (b : Nat) (hc : w.cell? ⟨b, 0, none⟩ = some (.pointer (some ⟨d, 0, none⟩))) : Calls Tryz.prog 175 #[cvU x, .pointer (some ⟨b, 0, none⟩)] w fun e w' => e = .returned (.int .i64 (faultU L x)) ∧ Below w.heap.size w w' := by
  have hbl : b < w.heap.size := World.block_lt_of_cell? w ⟨b, 0, none⟩ hc
  obtain ⟨w0, hw0⟩ : ∃ W, W = w.alloc (obU x) := ⟨_, rfl⟩
  have b1 : Below w.heap.size w w0 := by rw [hw0]; exact bal (Below.refl _ _) _
  have hc0 : w0.cell? ⟨b, 0, none⟩ = some (.pointer (some ⟨d, 0, none⟩)) := keep1 b1 hbl hc
  have hlv : (ldU (.pointer (some ⟨w.heap.size, 0, none⟩))).run Tryz.prog w0 = .ok (cvU x) w0 := by rw [hw0]; exact ld_varU w x (Below.refl _ _)
  have D := hide (rowFault_any (h.below b1) x hs hn)
  have HB := hide b1
  have hw0' : w.alloc (.cells #[.int .i64 x.seq, .int .i64 x.lin, .int .i64 x.day, .int .i64 x.kin, .string x.key, .string x.acc, .int .i64 x.amt, .string x.tag, .string x.mem] 63) = w0 := by rw [hw0]; rfl
  unfold cvU at D hlv ⊢
  clear b1 hs hw0 hc hbl h hn
  go_enter Tryz.func175, Tryz.ntmps175
  go_wp2_with fail
  refine (unhide D).mono ?_
  rintro e w1 ⟨rfl, hb⟩
  have HB1 : Hid (Below w.heap.size w w1) := (unhide HB).trans (hb.mono (unhide HB).size)
  clear hb D hlv hc0 hw0'
  go_wp2_with fail
  go_ret
  exact ⟨rfl, unhide HB1⟩
end Go.Proofs.YtcafhmlpmbkhkaaGreatDoor
namespace Go.Proofs.YtcafhmlpmbkhkaaGreatDoor
open Go Go.Shelf Go.ChangeShapes Go.WideShapes Go.ChangeAt Go.RowKit Go.Maps
set_option linter.unusedVariables false
set_option linter.unusedSimpArgs false
attribute [local go_sem ↓] ldU_is
theorem eg175 (args : Array Value) (w : World) : (callFunc 175 args).run Tryz.prog w = .ok (.enter 175 args) w := by kernel_rfl
structure PoOk (x : Po) : Prop where
  acc : x.acc.size ≤ 1048576
  day : fits64 x.day
  amt : fits64 x.amt
def cnt (fr tt : Int) (r : Po) : Bool := decide (fr ≤ r.day) && decide (r.day ≤ tt)
def cntF (R : List Po) (fr tt : Int) (s : ByteArray) : List Int := (R.filter fun r => cnt fr tt r && decide (r.acc = s)).map (·.amt)
theorem cntF_snoc (R : List Po) (r : Po) (fr tt : Int) : cntF (R ++ [r]) fr tt = if cnt fr tt r = true then updF (cntF R fr tt) r.acc r.amt else cntF R fr tt := by
  funext s
  unfold cntF
  rw [List.filter_append, List.map_append]
  by_cases hc : cnt fr tt r = true
  · rw [if_pos hc]
    unfold updF
    by_cases hs : s = r.acc
    · subst hs
      rw [if_pos rfl]
      simp [hc]
    · rw [if_neg hs]
      have : ¬ r.acc = s := fun e => hs e.symm
      simp [hc, this]
  · rw [if_neg hc]
    have hc' : cnt fr tt r = false := by simpa using hc
    simp [hc']
open Classical in
noncomputable def errC (L : List Ch.Ac) (R : List Po) : Int := if Ch.fromOk L then fstU (faultU L) R else 67
def balO (pa : Option Addr) (na ca mb : Nat) (over : Int) : Obj := .cells #[.slice pa na ca, .map (some mb), .int .i64 over] 150
def CntOut (w : World) (pa : Option Addr) (na ca : Nat) (L : List Ch.Ac) (R : List Po) (fr tt : Int) (e : Ending) (w' : World) : Prop :=
  ((errC L R = 0 ∧ ∃ bb mb, e = .returned (.tuple #[.pointer (some ⟨bb, 0, none⟩), .int .i64 0]) ∧ w'.heap[bb]? = some (balO pa na ca mb 0) ∧ Gp w' (bb + 1) mb R.length (cntF R fr tt) ∧ w.heap.size ≤ mb ∧ mb < bb) ∨ (errC L R ≠ 0 ∧ e = .returned (.tuple #[.pointer none, .int .i64 (errC L R)]))) ∧ Below w.heap.size w w'
structure CnAt (w : World) (bb mb : Nat) (O : Obj) (R : List Po) (fr tt : Int) (k : Nat) (W : World) : Prop where
  gp : Gp W (bb + 1) mb k (cntF (R.take k) fr tt)
  bel : Below w.heap.size w W
  blk : W.heap[bb]? = some O
set_option maxRecDepth 100000 in
set_option maxHeartbeats 16000000 in
theorem counted_any {w : World} {pa : Option Addr} {na ca : Nat} {L : List Ch.Ac} (hL : L.length = na) (hLL : Lies Ch.kA w pa L) (hna : na ≤ 1048576) (hsz : ∀ a ∈ L, (Ch.txN a.nm).size < 4611686018427387904) {pr : Option Addr} {nr cr : Nat} {R : List Po} (hR : R.length = nr) (hLR : Lies kU w pr R) (hok : ∀ r ∈ R, PoOk r) (hnr : nr ≤ 1048576) (fr tt : Int) (hfr : fits64 fr) (htt : fits64 tt) :
    Calls Tryz.prog 103 #[.slice pa na ca, .slice pr nr cr, .int .i64 fr, .int .i64 tt] w (CntOut w pa na ca L R fr tt) := by
  have D1 := hide (Ch.from_any (c := ca) hL (by omega) hLL hsz)
  have HR := hide hR; have HLR := hide hLR; have HOK := hide hok
  clear hL hLL hsz hR hLR hok
  go_enter Tryz.func103, Tryz.ntmps103
  go_wp2_with fail
  refine (unhide D1).mono ?_
  rintro e w1 ⟨⟨hfo, d, S, g, rfl, hct, hnew⟩ | ⟨hfo, rfl⟩, hb1⟩
  · obtain ⟨w2, hw2⟩ : ∃ W, W = w1.alloc (.cells #[.pointer (some ⟨d, 0, none⟩)] 168) := ⟨_, rfl⟩
    have b12 : Below w1.heap.size w1 w2 := by rw [hw2]; exact bal (Below.refl _ _) _
    have hh2 : w2.heap[w1.heap.size]? = some (.cells #[.pointer (some ⟨d, 0, none⟩)] 168) := by rw [hw2]; exact heap_new _ _
    have hb02 : Below w.heap.size w w2 := hb1.trans (b12.mono hb1.size)
    have hct2 := hct.below b12
    have HCB : Hid (∀ W, Below w2.heap.size w2 W → W.cell? ⟨w1.heap.size, 0, none⟩ = some (.pointer (some ⟨d, 0, none⟩))) := fun W hb => by
      rw [cell_at ((hb.block _ (Array.getElem?_eq_some_iff.1 hh2).1).trans hh2)]
      rfl
    have DF := hide (fltU (c := cr) (unhide HR) ((unhide HLR).below hb02) (g := 175) eg175 (cap := #[.pointer (some ⟨w1.heap.size, 0, none⟩)]) (.inr ⟨_, rfl⟩) (f := faultU L) (ok := PoOk) (unhide HOK) (fun x W hx hW => row_clo (hct2.below hW) x (by have := hx.acc; omega) hx.amt.1 w1.heap.size (unhide HCB W hW)) (by omega))
    have hw2' := hw2.symm
    have HB2 := hide hb02
    have HEC : Hid (errC L R = fstU (faultU L) R) := if_pos hfo
    unfold Ch.ptr
    clear hct hct2 hnew hb1 b12 hw2 hh2 hb02 D1 hfo
    go_wp2_with fail
    refine (unhide DF).mono ?_
    rintro e w3 ⟨rfl, hb3⟩
    have HB3 : Hid (Below w.heap.size w w3) := (unhide HB2).trans (hb3.mono (unhide HB2).size)
    obtain ⟨F, hF⟩ : ∃ z, z = fstU (faultU L) R := ⟨_, rfl⟩
    rw [← hF] at HEC ⊢
    clear hb3 DF hF hw2'
    by_cases hF0 : F = 0
    · subst hF0
      obtain ⟨w4, hw4⟩ : ∃ W, W = w3.alloc (.map #[] 0) := ⟨_, rfl⟩
      have b34 : Below w3.heap.size w3 w4 := by rw [hw4]; exact bal (Below.refl _ _) _
      have hz4 : w4.heap.size = w3.heap.size + 1 := by rw [hw4]; simp
      obtain ⟨w5, hw5⟩ : ∃ W, W = w4.alloc (balO pa na ca w3.heap.size 0) := ⟨_, rfl⟩
      have b45 : Below w4.heap.size w4 w5 := by rw [hw5]; exact bal (Below.refl _ _) _
      have hh5 : w5.heap[w4.heap.size]? = some (balO pa na ca w3.heap.size 0) := by rw [hw5]; exact heap_new _ _
      obtain ⟨mb, hmb⟩ : ∃ b, b = w3.heap.size := ⟨_, rfl⟩
      obtain ⟨bb, hbb⟩ : ∃ b, b = w4.heap.size := ⟨_, rfl⟩
      have hgp4 : Gp w4 (bb + 1) mb 0 (fun _ => []) := by rw [hw4, hmb]; exact Gp.made2 w3 (bb + 1) (by omega)
      rw [← hmb, ← hbb] at hh5
      have HS : Hid (CnAt w bb mb (balO pa na ca mb 0) R fr tt 0 w5) := ⟨hgp4.below b45, (unhide HB3).trans ((b34.trans (b45.mono b34.size)).mono (unhide HB3).size), hh5⟩
      have HB5 : Hid (Below w.heap.size w w5) := (unhide HB3).trans ((b34.trans (b45.mono b34.size)).mono (unhide HB3).size)
      have HMB : Hid (w.heap.size ≤ mb ∧ mb < bb ∧ bb < w5.heap.size) := by
        refine ⟨by rw [hmb]; exact (unhide HB3).size, by omega, (Array.getElem?_eq_some_iff.1 hh5).1⟩
      have hmk := fun W => run_makeMap (P := Tryz.prog) 148 W
      have hw4' := hw4.symm
      have hw5' : w4.alloc (.cells #[.slice pa na ca, .map (some mb), .int .i64 0] 150) = w5 := by rw [hw5, hmb]; rfl
      have HMBE := hide hmb; have HBBE := hide hbb
      clear hw4 hw5 b34 b45 hh5 hgp4 hbb hz4
      rw [hmb] at hw5'
      clear hmb
      go_wp2_with fail
      rw [← unhide HMBE, ← unhide HBBE]
      clear hmk hw4' hw5'
      go_loopw [36] (fun iv W => ∃ (k : Nat) (K : Int), k ≤ nr ∧ iv = .int .i64 K ∧ K = (k : Int) ∧ Hid (CnAt w bb mb (balO pa na ca mb 0) R fr tt k W)) (fun iv _ => ((nr : Int) - intOf iv).toNat)
      case atStart => exact ⟨0, 0, by omega, rfl, rfl, unhide HS⟩
      case round =>
        obtain ⟨wo, rfl⟩ : ∃ x, x = wr := ⟨wr, rfl⟩
        obtain ⟨k, K, hk, rfl, hK, HA⟩ := hrel
        by_cases hlt : k < nr
        · have hI : K < (nr : Int) := by omega
          have hK0 : 0 ≤ K := by omega
          have hKt : K.toNat = k := by omega
          have hkR : k < R.length := by have := unhide HR; omega
          have hbo : Below w.heap.size w wo := (unhide HA).bel
          obtain ⟨b, o, ep, hb, hld⟩ := ((unhide HLR).below hbo).ldU hkR
          obtain ⟨x, hx⟩ : ∃ x, x = R[k] := ⟨_, rfl⟩
          rw [← hx] at hld
          have hxm : x ∈ R := by rw [hx]; exact List.getElem_mem hkR
          have hxo := unhide HOK x hxm
          have hTK : R.take (k + 1) = R.take k ++ [x] := by rw [List.take_succ_eq_append_getElem hkR, ← hx]
          obtain ⟨w6, hw6⟩ : ∃ W, W = wo.alloc (obU x) := ⟨_, rfl⟩
          have b6 : Below wo.heap.size wo w6 := by rw [hw6]; exact bal (Below.refl _ _) _
          have hh6 : w6.heap[wo.heap.size]? = some (obU x) := by rw [hw6]; exact heap_new _ _
          obtain ⟨c2, c5, c6⟩ := u_cells hh6
          have hw6' : wo.alloc (.cells #[.int .i64 x.seq, .int .i64 x.lin, .int .i64 x.day, .int .i64 x.kin, .string x.key, .string x.acc, .int .i64 x.amt, .string x.tag, .string x.mem] 63) = w6 := by rw [hw6]; rfl
          have HK := hide hK
          have hA6 : CnAt w bb mb (balO pa na ca mb 0) R fr tt k w6 := ⟨(unhide HA).gp.below b6, (unhide HA).bel.trans (b6.mono (unhide HA).bel.size), (b6.block _ (Array.getElem?_eq_some_iff.1 (unhide HA).blk).1).trans (unhide HA).blk⟩
          have HA6 := hide hA6
          obtain ⟨dy, hdy⟩ : ∃ z, z = x.day := ⟨_, rfl⟩
          rw [← hdy] at c2 hw6'
          subst ep
          unfold cvU at hld
          rw [← hdy] at hld
          have HTK := hide hTK; have HDY := hide hdy; have HXO := hide hxo
          clear hkR hlt hK hx hxm hw6 b6 hA6 hbo hTK hdy hxo hb
          by_cases hc : fr ≤ dy ∧ dy ≤ tt
          · have hc1 : fr ≤ dy := hc.1
            have hc2 : dy ≤ tt := hc.2
            have hcnt : cnt fr tt x = true := by unfold cnt; rw [← unhide HDY]; simp [hc1, hc2]
            have hHN : cntF (R.take (k + 1)) fr tt = updF (cntF (R.take k) fr tt) x.acc x.amt := by rw [unhide HTK, cntF_snoc, if_pos hcnt]
            have HHN := hide hHN
            have HH6 := hide hh6
            obtain ⟨wd, hwd⟩ : ∃ W, W = w6.drew := ⟨_, rfl⟩
            have bd : Below w6.heap.size w6 wd := by rw [hwd]; exact below_drewN (Below.refl _ _) 1
            have hgpd := (unhide HA6).gp.below bd
            have hbkd := (bd.block _ (Array.getElem?_eq_some_iff.1 (unhide HA6).blk).1).trans (unhide HA6).blk
            have hrbd := (bd.block _ (Array.getElem?_eq_some_iff.1 hh6).1).trans hh6
            obtain ⟨v, hlook, hown, hfit, hlen, hback⟩ := hgpd.look x.acc (by have := (unhide HXO).acc; unfold maxLen; omega) (by unfold maxLen; omega)
            have hlooks := hgpd.looks x.acc (by have := (unhide HXO).acc; unfold maxLen; omega) hlook
            obtain ⟨p7, c7, w7, r7, o7, b7, k7, q7⟩ := amt_app hown (by have := (unhide HMB).2.2; have := (Array.getElem?_eq_some_iff.1 hbkd).1; omega) x.amt (by omega)
            have hg7 : wd.grownBy w7 v.ownBlock := ⟨b7.os, b7.tape, b7.output, b7.size, fun j hj hne => k7 j hj (fun e => hne e.symm)⟩
            obtain ⟨w8, r8, hgp8, hg8⟩ := hback w7 _ x.amt hg7 o7 (unhide HXO).amt (by
              rcases q7 with q | q
              · exact .inl q
              · exact .inr ⟨_, q, Nat.le_succ _⟩)
            have hbbl : bb < wd.heap.size := (Array.getElem?_eq_some_iff.1 hbkd).1
            have hmbl : mb < wd.heap.size := hgpd.lt
            have hv : ∀ j, j ≤ bb → v.ownBlock ≠ some j := fun j hj e => by
              have := (hown.lt j e).1
              omega
            have hbk7 := (k7 bb hbbl (hv bb (Nat.le_refl _))).trans hbkd
            have hmb7 := k7 mb hmbl (hv mb (by have := (unhide HMB).2.1; omega))
            have hrbl : wo.heap.size < wd.heap.size := (Array.getElem?_eq_some_iff.1 hrbd).1
            have hrb7 : w7.heap[wo.heap.size]? = some (obU x) := (k7 _ hrbl (fun e => by
              obtain ⟨ys, hy⟩ := own_obj hown e
              rw [hrbd] at hy
              unfold obU at hy
              injection hy with hy
              injection hy with _ h5 _
              exact absurd h5 (by decide))).trans hrbd
            have HNEW : Hid (CnAt w bb mb (balO pa na ca mb 0) R fr tt (k + 1) w8) := by
              refine ⟨by rw [hHN]; exact hgp8, ?_, (hg8.block bb (Nat.lt_of_lt_of_le hbbl b7.size) (by have := (unhide HMB).2.1; intro e; have := Option.some.inj e; omega)).trans hbk7⟩
              have h1 : Below w.heap.size w w7 := ((unhide HA6).bel.trans (bd.mono (unhide HA6).bel.size)).trans (b7.mono (by have := (unhide HMB).1; have := (unhide HMB).2.1; omega))
              exact h1.trans ⟨hg8.os, hg8.tape, hg8.output, hg8.size, fun j hj => hg8.block j (Nat.lt_of_lt_of_le hj h1.size) (by have := (unhide HMB).1; intro e; have := Option.some.inj e; omega)⟩
            have HSS : Hid (∀ W : World, W.heap[bb]? = some (balO pa na ca mb 0) → W.heap[mb]? = wd.heap[mb]? → W.heap[wo.heap.size]? = some (obU x) → W.cell? ⟨bb, 1, none⟩ = some (.map (some mb)) ∧ W.cell? ⟨wo.heap.size, 5, none⟩ = some (.string x.acc) ∧ W.cell? ⟨wo.heap.size, 6, none⟩ = some (.int .i64 x.amt) ∧ (Instr.lookup 148 (.map (some mb)) (.string x.acc) false).run Tryz.prog W = .ok v W) := fun W h1 h2 h3 => by
              unfold balO at h1
              obtain ⟨_, e5, e6⟩ := u_cells h3
              exact ⟨by rw [cell_at h1]; rfl, e5, e6, hlooks W h2⟩
            have sd := unhide HSS wd hbkd rfl hrbd
            have bE : Below wd.heap.size wd (wd.alloc (.cells #[.int .i64 x.amt] 2)) := bal (Below.refl _ _) _
            have SE := hide (unhide HSS _ ((bE.block bb hbbl).trans hbkd) (bE.block mb hmbl) ((bE.block _ hrbl).trans hrbd))
            have S7 := hide (unhide HSS w7 hbk7 hmb7 hrb7)
            have HR7 := hide r7; have HR8 := hide r8
            have sd0 := sd
            rw [hwd] at sd0
            have HWD := hide hwd
            clear hwd
            clear hback hlooks hown hfit hlen hlook o7 b7 k7 q7 hg7 r7 r8 hgp8 hg8 hbbl hmbl hv hbk7 hmb7 hrbl hrb7 bE hbkd hrbd hgpd bd hHN hcnt hc hh6
            go_upto_region 12 with fail
            clear c2 c5 c6 hld hw6'
            refine wp_region_last (n := 17) (S := fun W => W.cell? ⟨bb, 1, none⟩ = some (.map (some mb)) ∧ W.cell? ⟨wo.heap.size, 5, none⟩ = some (.string x.acc) ∧ W.cell? ⟨wo.heap.size, 6, none⟩ = some (.int .i64 x.amt) ∧ (Instr.lookup 148 (.map (some mb)) (.string x.acc) false).run Tryz.prog W = .ok v W) (by kernel_rfl) sd0 (fun hHeld => ?_)
            clear hHeld sd0
            rw [← unhide HWD]
            refine tkW 0 ?_; refine tkW 1 ?_; refine tkW 2 ?_
            refine tkS 3 ?_ (hy := by (refine Or.inl ⟨by rfl, ?_⟩; intro W hSW; obtain ⟨hA, hB, hC, hD⟩ := hSW; go_simp; try with_reducible rfl))
            refine tkW 4 ?_
            refine tkS 5 ?_ (hy := by (refine Or.inl ⟨by rfl, ?_⟩; intro W hSW; obtain ⟨hA, hB, hC, hD⟩ := hSW; go_simp; try with_reducible rfl))
            refine tkW 6 ?_; refine tkW 7 ?_; refine tkW 8 ?_
            refine tkS 9 ?_ (hy := by (refine Or.inl ⟨by rfl, ?_⟩; intro W hSW; obtain ⟨hA, hB, hC, hD⟩ := hSW; go_simp; try with_reducible rfl))
            refine tkW 10 ?_
            refine tkS 11 ?_ (hy := by (refine Or.inl ⟨by rfl, ?_⟩; intro W hSW; obtain ⟨hA, hB, hC, hD⟩ := hSW; go_simp; try with_reducible rfl))
            refine tkS 12 ?_ (hy := by (refine Or.inl ⟨by rfl, ?_⟩; intro W hSW; obtain ⟨hA, hB, hC, hD⟩ := hSW; go_simp; try with_reducible rfl))
            refine tkW 13 ?_
            refine tkS 14 ?_ (hy := by (refine Or.inl ⟨by rfl, ?_⟩; intro W hSW; obtain ⟨hA, hB, hC, hD⟩ := hSW; go_simp; try with_reducible rfl))
            refine wpAnyL_one (i := 15) (by kernel_rfl) rfl (fun KK hKK => ?_)
            go_simp
            refine hKK.out _ _ (unhide SE) (fun hHeld => ?_)
            clear hKK KK sd
            refine wpAnyL_one (i := 16) (by kernel_rfl) rfl (fun KK hKK => ?_)
            refine step_append_run _ (by rfl) _ _ 92 (by rfl) _ _ _ _ (by rfl) (by rfl) (unhide HR7) ?_
            refine hKK.out _ _ (unhide S7) (fun hHeld => ?_)
            clear hKK KK hHeld
            refine wpAnyL_past (i := 17) (by kernel_rfl) rfl (by kernel_rfl) (fun KK hKK => ?_)
            have r8 := unhide HR8
            go_simp
            refine hKK.out _ _ ?_
            clear hKK KK r8
            refine wpAnyL_done (by kernel_rfl) ?_
            go_wp2_with fail
            exact ⟨⟨k + 1, K + 1, by omega, by go_num, by have := unhide HK; omega, unhide HNEW⟩, by have := unhide HK; simp [intOf]; omega⟩
          · have hcnt : cnt fr tt x = false := by unfold cnt; rw [← unhide HDY]; simp; omega
            have hHN : cntF (R.take (k + 1)) fr tt = cntF (R.take k) fr tt := by rw [unhide HTK, cntF_snoc, if_neg (by rw [hcnt]; simp)]
            have HNEW : Hid (CnAt w bb mb (balO pa na ca mb 0) R fr tt (k + 1) w6) := ⟨by rw [hHN]; exact (unhide HA6).gp.mono (by omega), (unhide HA6).bel, (unhide HA6).blk⟩
            clear hcnt hHN c5 c6
            by_cases h1 : fr ≤ dy
            · have h2 : ¬ dy ≤ tt := fun h => hc ⟨h1, h⟩
              have d2 : decide (dy ≤ tt) = false := decide_eq_false h2
              clear hc
              go_wp2_with fail
              exact ⟨⟨k + 1, K + 1, by omega, by go_num, by have := unhide HK; omega, unhide HNEW⟩, by have := unhide HK; simp [intOf]; omega⟩
            · have d1 : decide (fr ≤ dy) = false := decide_eq_false h1
              clear hc
              go_wp2_with fail
              exact ⟨⟨k + 1, K + 1, by omega, by go_num, by have := unhide HK; omega, unhide HNEW⟩, by have := unhide HK; simp [intOf]; omega⟩
        · have hI : ¬ K < (nr : Int) := by omega
          have hkn : k = nr := by omega
          subst hkn
          have HFIN : Hid (CntOut w pa na ca L R fr tt (.returned (.tuple #[.pointer (some ⟨bb, 0, none⟩), .int .i64 0])) wo) := by
            have h := (unhide HA).gp
            rw [List.take_of_length_le (by have := unhide HR; omega), ← unhide HR] at h
            exact ⟨.inl ⟨unhide HEC, bb, mb, rfl, (unhide HA).blk, h, (unhide HMB).1, (unhide HMB).2.1⟩, (unhide HA).bel⟩
          clear HA hK
          go_wp2_with fail
          go_ret2
          exact unhide HFIN
    · have hFb : (F != 0) = true := by rw [bne_iff_ne]; exact hF0
      have hFq : (F == 0) = false := beq_eq_false_iff_ne.2 hF0
      go_wp2_with fail
      go_ret2
      exact ⟨.inr ⟨by rw [unhide HEC]; exact hF0, by rw [unhide HEC]; rfl⟩, unhide HB3⟩
  · have HEC : Hid (errC L R = 67) := if_neg hfo
    have HB1 := hide hb1
    clear hb1 hfo D1
    go_wp2_with fail
    go_ret2
    exact ⟨.inr ⟨by rw [unhide HEC]; decide, by rw [unhide HEC]; rfl⟩, bal (unhide HB1) _⟩
end Go.Proofs.YtcafhmlpmbkhkaaGreatDoor
