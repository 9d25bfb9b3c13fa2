/- played (7), Kids (18). -/
import Derived.Test.YtgimeecklmmbjaaDoorChR
namespace Go.Proofs.YtgimeecklmmbjaaDoor
open Go Go.Shelf Go.ChangeShapes Go.WideShapes Go.ChangeAt Go.RowKit Go.Maps Go.Sort
set_option linter.unusedVariables false
def Av.vals (v : Av) : List Value := [.int .i64 v.who, .int .i64 v.kind, .int .i64 v.typ, .int .i64 v.day, .string v.nam, .string v.ask]
theorem sz33 : (Tryd.prog.info? 33).map (·.size) = some 6 := by kernel_rfl
def ld33 (x : Value) : Sem Value := Instr.loadAt 33 x
theorem ld33_is (x : Value) : Instr.loadAt 33 x = ld33 x := rfl
theorem run_ld33 {w : World} {b o : Nat} {v : Av} (h : w.rangeAt b o v.vals) : (ld33 (.pointer (some ⟨b, o, none⟩))).run Tryd.prog w = .ok v.val w :=
  run_loadAt_mid (P := Tryd.prog) w b o 33 v.vals _ h Tryd.underlying33 rfl sz33
/-- calls that came in -/
def ActsAt (W : World) (p : Option Addr) (A : List Av) : Prop := ∀ k (hk : k < A.length), ∃ b off, p = some ⟨b, off, none⟩ ∧ b < W.heap.size ∧ W.rangeAt b (off + k * 6) A[k].vals
theorem ActsAt.below {W X : World} {p : Option Addr} {A : List Av} (h : ActsAt W p A) (hb : Below W.heap.size W X) : ActsAt X p A := fun k hk => by
  obtain ⟨b, off, h1, h2, h3⟩ := h k hk
  exact ⟨b, off, h1, Nat.lt_of_lt_of_le h2 hb.size, fun j v hv => (hb.cell (p := ⟨b, off + k * 6 + j, none⟩) h2).trans (h3 j v hv)⟩
/-- all calls one behind the other -/
def playL (L : List Ac) (A : List Av) : List Ac := A.foldl nxtL L
theorem playL_snoc (L : List Ac) {A : List Av} {k : Nat} (hk : k < A.length) : playL L (A.take (k + 1)) = nxtL (playL L (A.take k)) A[k] := by
  rw [playL, playL, ← List.take_append_getElem hk, List.foldl_append]
  rfl
/-- a chart that was made since W -/
def New (W : World) (d : Nat) (L : List Ac) (X : World) : Prop := ∃ S g, Ct X d S L g ∧ (∀ k, S k → W.heap.size ≤ k) ∧ Below W.heap.size W X
theorem New.chg {W X w' : World} {d : Nat} {S : Nat → Prop} {L M : List Ac} (hn : ∀ k, S k → W.heap.size ≤ k) (hb : Below W.heap.size W X) (h : Chg X d S M w') : New W d M w' := by
  obtain ⟨S', g', h1, h2, h3⟩ := h
  refine ⟨S', g', h1, fun k hk => ?_, ⟨h3.os.trans hb.os, h3.tape.trans hb.tape, h3.output.trans hb.output, Nat.le_trans hb.size h3.size, fun k hk => ?_⟩⟩
  · rcases h2 k hk with h | h
    · exact hn k h
    · exact Nat.le_trans hb.size h
  · refine (h3.block k (Nat.lt_of_lt_of_le hk hb.size) (fun hs => ?_)).trans (hb.block k hk)
    have := hn k hs
    omega
section
attribute [local go_sem ↓] ld33_is
set_option maxRecDepth 100000 in
set_option maxHeartbeats 4000000 in
theorem played_any {W : World} {p : Option Addr} {n c : Nat} {A : List Av} (hA : A.length = n) (hn : n ≤ 2305843009213693951) (hL : ActsAt W p A) (hok : ∀ v ∈ A, v.ok) :
    Calls Tryd.prog 7 #[.slice p n c] W fun e w' => e = .returned (ptr W.heap.size) ∧ New W W.heap.size (playL [] A) w' := by
  have HL := hide hL; have HOK := hide hok; have HA := hide hA
  clear hL hok hA
  have dN := hide (new_any W)
  have F0 : Hid (New W W.heap.size (playL [] (A.take 0)) (W.alloc (.cells (cellsA top0 (.slice none 0 0)) 61))) := ⟨_, _, new_ct W, fun k hk => by omega, (Below.refl _ W).alloc (Nat.le_refl _) _⟩
  go_enter Tryd.func7, Tryd.ntmps7
  go_upto_region 2 with (go_at_call 12; refine (unhide dN).mono ?_; rintro e X0 ⟨rfl, hX0⟩; rw [hX0]; clear hX0 X0)
  go_wp2_with fail
  go_loopw [4] (fun v4 wr => ∃ i : Nat, i ≤ n ∧ v4 = .int .i64 i ∧ Hid (New W W.heap.size (playL [] (A.take i)) wr)) (fun v4 _ => n - (intOf' v4).toNat)
  case atStart => exact ⟨0, Nat.zero_le _, rfl, unhide F0⟩
  case round =>
    obtain ⟨i, hi, rfl, hrel⟩ := hrel
    by_cases hlt : i < n
    · have hil : i < A.length := by rw [unhide HA]; exact hlt
      obtain ⟨S, g, hct, hnew, hbel⟩ := unhide hrel
      obtain ⟨b, off, hp, hbW, hr⟩ := ((unhide HL).below hbel) i hil
      subst hp
      obtain ⟨v, hv⟩ : ∃ v, v = A[i] := ⟨_, rfl⟩
      rw [← hv] at hr
      have hld := run_ld33 hr
      have hvA : v ∈ A := by rw [hv]; exact List.getElem_mem hil
      have dA := hide (answer_any hct v (unhide HOK v hvA))
      have hsn : playL [] (A.take (i + 1)) = nxtL (playL [] (A.take i)) v := by rw [hv]; exact playL_snoc [] hil
      have HSN := hide hsn; have HNW := hide hnew; have HBL := hide hbel
      obtain ⟨V, hV⟩ : ∃ V, V = v.val := ⟨_, rfl⟩
      rw [← hV] at hld dA
      have hwi : IntKind.i64.wrap ((i : Int) + 1) = (i : Int) + 1 := wrapI (by omega) (by omega)
      clear hr hv hvA hct hnew hbel hsn hV
      go_wp2_with (go_at_call 10; refine (unhide dA).mono ?_; rintro e X ⟨rfl, hch⟩; have HCH := hide hch; clear hch)
      refine ⟨⟨i + 1, by omega, by simp, ?_⟩, ?_⟩
      · show New W W.heap.size (playL [] (A.take (i + 1))) X
        rw [unhide HSN]
        exact New.chg (L := playL [] (A.take i)) (unhide HNW) (unhide HBL) (unhide HCH)
      · show n - ((i : Int) + 1).toNat < n - ((i : Int)).toNat
        omega
    · have hin : i = n := by omega
      subst hin
      have hall : Hid (New W W.heap.size (playL [] A) wr) := by
        have := unhide hrel
        rw [List.take_of_length_le (by rw [unhide HA]; exact Nat.le_refl _)] at this
        exact this
      go_wp2
      go_ret
      exact ⟨rfl, unhide hall⟩
end
end Go.Proofs.YtgimeecklmmbjaaDoor
