/- disk: Free (28). -/
import Derived.Test.YtpeohbkigkfcgaaDkE
import Derived.Maps.RangeWalk
import Derived.Sort.KeysCollected
import Derived.RangeFuncOwn
namespace Go.Proofs.Ytpeohbkigkfcgaa
open Go Go.Shelf Go.ChangeShapes Go.WideShapes Go.ChangeAt Go.RowKit Go.Maps Go.Sort
set_option linter.unusedVariables false
/-- how many bytes all files have -/
def totF (A : Fs) : Nat := (A.map fun p => p.2.bs.length).sum
def lenF (A : Fs) (x : List UInt8) : Nat := match getF x A with
  | some f => f.bs.length
  | none => 0
theorem keys_tie {W : World} {es : List (Lit × DataW Value)} {A : Fs} (h : All2 (FileAt W) es A) : strKeys (DataW.map es) = A.map (·.1) := by
  show es.map (fun p => strOf p.1) = _
  induction h with
  | nil => rfl
  | cons h1 _ ih => rw [List.map_cons, List.map_cons, ih, h1.1]; rfl
/-- names without twins: each one's length is its own -/
theorem len_own : ∀ (A : Fs), (A.map (·.1)).Nodup → ((A.map (·.1)).map (lenF A)).sum = totF A
  | [], _ => rfl
  | a :: A, h => by
    rw [List.map_cons, List.nodup_cons] at h
    have h1 : lenF (a :: A) a.1 = a.2.bs.length := by simp [lenF, getF]
    have h2 : ∀ x ∈ A.map (·.1), lenF (a :: A) x = lenF A x := fun x hx => by
      have hne : (a.1 == x) = false := by
        rw [beq_eq_false_iff_ne]
        intro e
        exact h.1 (by rw [e]; exact hx)
      simp [lenF, getF, hne]
    rw [List.map_cons, List.map_cons, List.sum_cons, h1, List.map_congr_left h2, len_own A h.2]
    simp [totF]
theorem sum_perm {l m : List (List UInt8)} (A : Fs) (h : l.Perm m) : (l.map (lenF A)).sum = (m.map (lenF A)).sum := by
  induction h with
  | nil => rfl
  | cons x _ ih => simp [ih]
  | swap x y l => simp only [List.map_cons, List.sum_cons]; omega
  | trans _ _ h1 h2 => exact h1.trans h2
theorem sum_sub (f : List UInt8 → Nat) : ∀ (l m : List (List UInt8)), l.Nodup → (∀ x ∈ l, x ∈ m) → (l.map f).sum ≤ (m.map f).sum
  | [], _, _, _ => by simp
  | x :: l, m, hn, hs => by
    rw [List.nodup_cons] at hn
    have hx := hs x (List.mem_cons_self ..)
    have h1 := sum_sub f l (m.erase x) hn.2 (fun y hy => (List.mem_erase_of_ne (fun e => hn.1 (by rw [← e]; exact hy))).2 (hs y (List.mem_cons_of_mem _ hy)))
    have h2 : (m.map f).sum = f x + ((m.erase x).map f).sum := by
      have hp := (List.perm_cons_erase hx).map f
      rw [hp.sum_nat]
      simp
    rw [h2, List.map_cons, List.sum_cons]
    omega
theorem sum_snoc (f : List UInt8 → Nat) (l : List (List UInt8)) (x : List UInt8) : ((l ++ [x]).map f).sum = (l.map f).sum + f x := by simp
set_option maxRecDepth 100000 in
set_option maxHeartbeats 4000000 in
theorem free_ok {w : World} {d N n : Nat} {K : Dk} {S : Nat → Prop} {mo : Option Nat} {es : List (Lit × DataW Value)} (h : DiskIs w d N K S mo n es) (hc : K.cap ≤ 1048576) (hc0 : 0 ≤ K.cap) (ht : totF K.A ≤ 1048576) :
    Calls Try.prog 28 #[.pointer (some ⟨d, 0, none⟩)] w fun e w' => e = .returned (.int .i64 (K.cap - (totF K.A : Int))) ∧ Below w.heap.size w w' := by
  have c0 := h.at'.c0
  have c1 := h.at'.c1
  have HD := hide h
  rcases h.at'.files with ⟨rfl, hes⟩ | ⟨b, rfl, hm⟩
  · injection hes with hes
    subst hes
    have hA : totF K.A = 0 := by
      have hl := h.fs.all.len
      have : K.A = [] := List.eq_nil_of_length_eq_zero (by rw [← hl]; rfl)
      rw [this]; rfl
    rw [hA]
    clear h
    have hrn := run_range_nilMap (P := Try.prog) w 62 9 67 Try.underlying62
    have hnx : ∀ ty, (Instr.next (.pointer (some ⟨w.heap.size, 0, none⟩)) false ty).run Try.prog (w.alloc (.mapIter none 0 #[] 0)) = _ := fun ty => run_next_nilMap w ty 0 0 #[]
    go_enter Try.func28, Try.ntmps28
    go_wp2_with fail
    refine wp_loop_once ?_
    go_wp2_with fail
    go_ret
    exact ⟨by simp, (Below.refl _ w).alloc (Nat.le_refl _) _⟩
  · have HM := hide hm
    have hnd : Hid ((K.A.map (·.1)).Nodup) := by
      have ht := hm.tidy (Maps.string_keyed Try.underlying9)
      obtain ⟨es', he, hp⟩ := ht
      injection he with he
      subst he
      rw [← keys_tie h.fs.all]
      show (es.map fun p => strOf p.1).Nodup
      have hk := h.fs.all
      clear h hm HM HD c0 c1 ht hc hc0
      generalize K.A = A0 at hk
      induction hk with
      | nil => exact List.nodup_nil
      | cons h1 hr ih =>
        rename_i e a es A
        rw [List.pairwise_cons] at hp
        rw [List.map_cons, List.nodup_cons]
        refine ⟨fun hm => ?_, ih hp.2⟩
        obtain ⟨e', he', heq⟩ := List.mem_map.1 hm
        obtain ⟨a', _, ha'⟩ := all_mem hr e' he'
        refine hp.1 e' he' ?_
        rw [h1.1, ha'.1]
        rw [h1.1, ha'.1] at heq
        simp only [strOf] at heq
        rw [heq]
    have HK := hide (keys_tie h.fs.all)
    have hat : Hid (∀ x v, (∀ z, (DataW.map es).atKey (.string x) z = DataW.held v) → ∀ p m c y, v = .agg #[.slice p m c, .int .i64 y] → m = lenF K.A x) := by
      intro x v hz p m c y hv
      have hh := Maps.has_true_of_atKey hz
      rw [has_tie h.fs.all, Option.isSome_iff_exists] at hh
      obtain ⟨f, hf⟩ := hh
      obtain ⟨e0, he0, ha, hfa⟩ := at_tie h.fs.all hf (.held noFile)
      rw [hz] at ha
      obtain ⟨_, p', c', f2, _⟩ := hfa
      have e2 := ha.trans f2
      injection e2 with e2
      rw [hv] at e2
      injection e2 with e2
      have e3 := congrArg Array.toList e2
      simp only [List.cons.injEq, Value.slice.injEq] at e3
      rw [e3.1.2.1]
      simp [lenF, hf]
    clear hm h
    go_enter Try.func28, Try.ntmps28
    go_wp2_with (at_range; refine wpList_range_own _ rfl _ 62 rfl 9 67 (Maps.string_keyed Try.underlying9) Try.underlying62 fileElem b n _ rfl (unhide HM) ?_; intro w0 hrg0 hg0 hs0)
    go_frame
    go_loopw [3] (fun v wr => ∃ (left : Lit → Bool) (cnt : Nat) (ss : List (List UInt8)), wr.ranges Try.prog 9 fileElem b w.heap.size n (.map es) left cnt ∧ Collected (.map es) left ss ∧ (ss.map (lenF K.A)).sum ≤ totF K.A ∧ v = .int .i64 (K.cap - (((ss.map (lenF K.A)).sum : Nat) : Int)) ∧ Below w.heap.size w wr) (fun _ wr => wr.rangeLeft b w.heap.size)
    case atStart => exact ⟨_, _, [], hrg0, Collected.start _, by simp, by simp, below_of_grown hg0⟩
    case round =>
      obtain ⟨left, cnt, ss, hrg, hC, hle, rfl, hb⟩ := hrel
      obtain ⟨X, hX⟩ : ∃ X : Int, X = K.cap - (((ss.map (lenF K.A)).sum : Nat) : Int) := ⟨_, rfl⟩
      have HX := hide hX
      have HRG := hide hrg; have HC := hide hC; have HB := hide hb; have HLE := hide hle
      rw [← hX]
      have hX1 : X ≤ 1048576 := by omega
      have hX0 : -1048576 ≤ X := by omega
      clear hX hC hb hle
      go_wp2_with (at_next; refine wpList_next_ranges _ rfl _ rfl 9 (Maps.string_keyed Try.underlying9) fileElem encStr (fun c : Option Addr × Nat × Nat × Int => .agg #[.slice c.1 c.2.1 c.2.2.1, .int .i64 c.2.2.2]) (fun key kl hk => by obtain ⟨x, hx, _⟩ := Maps.keyOf_str Try.underlying9 hk; exact ⟨x, hx⟩) (fun v y hv => by obtain ⟨p, m, c, y', h1, _⟩ := fileElem_inv hv; exact ⟨(p, m, c, y'), h1⟩) b w.heap.size n _ _ _ rfl hrg ?_ ?_)
      · intro hc0 hl0
        go_wp2_with fail
        go_ret
        have e1 := (unhide HC).perm (unhide HM) (Maps.string_keyed Try.underlying9) Try.underlying9 hl0
        have e2 : (ss.map (lenF K.A)).sum = totF K.A := by rw [sum_perm K.A e1, unhide HK, len_own _ (unhide hnd)]
        refine ⟨?_, unhide HB⟩
        rw [unhide HX, e2]
        rfl
      · intro x p m c y kl yd yp w2 cnt2 hkey hlk hv hat2 hrg2 hlt hg2 hs2 hen
        obtain ⟨x', ex, rfl, hxl⟩ := Maps.keyOf_str Try.underlying9 hkey
        have ex := encStr_inj ex
        subst ex
        rw [fileElem_mk] at hv
        injection hv with hv
        injection hv with hv1 hv2
        subst hv1
        have hm1 := unhide hat x _ hat2 p m c y rfl
        have HC2 := hide ((unhide HC).step hlk hat2)
        have hle2 : ((ss ++ [x]).map (lenF K.A)).sum ≤ totF K.A := by
          rw [← len_own _ (unhide hnd)]
          refine sum_sub _ _ _ (unhide HC2).1 (fun z hz => ?_)
          have h1 := ((unhide HC2).2 z).1 hz
          have h2 := h1.1
          rw [has_tie (unhide HD).fs.all, Option.isSome_iff_exists] at h2
          obtain ⟨f, hf⟩ := h2
          obtain ⟨e0, he0, _, hfa⟩ := at_tie (unhide HD).fs.all hf (.held noFile)
          rw [← unhide HK]
          show z ∈ es.map (fun p => strOf p.1)
          exact List.mem_map.2 ⟨e0, he0, by rw [hfa.1]; rfl⟩
        have HLE2 := hide hle2
        have hsum := sum_snoc (lenF K.A) ss x
        have HS := hide hsum
        have hm2 : m ≤ 1048576 := by rw [hm1]; omega
        have HM1 := hide hm1
        have hm3 : (0 : Int) ≤ (m : Int) := by omega
        clear hm1 hle2 hsum hkey hlk hat2 hv2 hxl
        go_wp2_with fail
        have hrg3 := hrg2.alloc (Obj.cells #[.slice p m c, .int .i64 y] 67)
        refine ⟨⟨_, _, ss ++ [x], hrg3, unhide HC2, unhide HLE2, ?_, ?_⟩, ?_⟩
        · have h1 := unhide HX; have h2 := unhide HS; have h3 := unhide HM1
          rw [h2]
          congr 1
          omega
        · have hB := unhide HB
          have h1 : Below w.heap.size wr w2 := ⟨hg2.os, hg2.tape, hg2.output, hg2.size, fun q hq => hg2.block q (by have := hB.size; omega) (by simp; omega)⟩
          exact (hB.trans h1).alloc (by have := hB.size; have := hg2.size; omega) _
        · rw [hrg3.left_eq, (unhide HRG).left_eq]
          exact hlt
end Go.Proofs.Ytpeohbkigkfcgaa
