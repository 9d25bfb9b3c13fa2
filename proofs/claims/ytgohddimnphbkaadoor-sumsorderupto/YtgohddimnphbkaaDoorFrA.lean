/- sums: From (13). -/
import Derived.Test.YtgohddimnphbkaaDoorEqA
import Derived.Test.YtgohddimnphbkaaDoorTrB
namespace Go.Proofs.YtgohddimnphbkaaDoor
open Go Go.RowKit Go.Shelf Go.ChangeShapes Go.WideShapes Go.ChangeAt Go.Maps Go.Sort
set_option linter.unusedVariables false
theorem flat_len {α β : Type} (f : α → List β) (m : Nat) : ∀ (l : List α), (∀ x ∈ l, (f x).length ≤ m) → (l.flatMap f).length ≤ m * l.length
  | [], _ => by simp
  | x :: l, h => by
    have h1 := flat_len f m l (fun y hy => h y (by simp [hy]))
    have h2 := h x (by simp)
    rw [List.flatMap_cons, List.length_append, List.length_cons, Nat.mul_add]
    omega
/-- State's list has at most six names a row -/
theorem held_len {L : Rows8} (hn : named L) {hs : List (List UInt8)} (hnd : hs.Nodup) (hm : ∀ k, k ∈ hs ↔ heldBy L k) : hs.length ≤ 6 * L.length := by
  refine Nat.le_trans (nodup_len hs (L.flatMap fun r => pathL r.1) hnd (fun k hk => ?_)) (flat_len _ 6 L (fun r _ => path_len r.1))
  obtain ⟨x, hx, hk⟩ := (hm k).1 hk
  have h1 := own_in L x hx
  rw [mem_nub] at h1
  obtain ⟨r, hr, rfl⟩ := List.mem_map.1 h1
  refine List.mem_flatMap.2 ⟨r, hr, ?_⟩
  unfold pathL
  rw [if_pos (hn r hr).1]
  exact hk
/-- a balance as a row -/
def bRow (L : Rows8) (k : List UInt8) : Ro := ⟨0, 0, 0, 0, ⟨#[]⟩, ⟨k.toArray⟩, own L k, ⟨#[]⟩, ⟨#[]⟩⟩
theorem rws_bRow (L : Rows8) (S : List (List UInt8)) : rws (S.map (bRow L)) = S.map fun m => (m, own L m) := by
  unfold rws
  rw [List.map_map]
  rfl
theorem own_bRow (L : Rows8) {hs : List (List UInt8)} (hnd : hs.Nodup) (hm : ∀ k, k ∈ hs ↔ heldBy L k) (k : List UInt8) : own (rws ((srt hs).map (bRow L))) k = own L k := by
  rw [rws_bRow]
  exact own_told L ((srt_perm hs).nodup_iff.2 hnd) (fun n h => by rw [srt_mem, hm]; exact ⟨n, h, by simp⟩) k
/-- the rows that From makes: so many are written -/
structure Mk (w W : World) (g n : Nat) (L : Rows8) (S : List (List UInt8)) (i : Nat) : Prop where
  at' : ∀ k (hk : k < S.length), k < i → W.rangeAt g (k * 9) (bRow L S[k]).vals
  th : W.there g 0 (n * 9)
  lt : g < W.heap.size
  bel : Below w.heap.size w W
theorem Mk.below {w W W' : World} {g n : Nat} {L : Rows8} {S : List (List UInt8)} {i : Nat} (h : Mk w W g n L S i) (hb : Below W.heap.size W W') : Mk w W' g n L S i where
  at' k hk hi j u hu := (hb.cell (p := ⟨g, k * 9 + j, none⟩) h.lt).trans (h.at' k hk hi j u hu)
  th j hj := by
    have := h.th j hj
    rw [hb.cell (p := ⟨g, 0 + j, none⟩) h.lt, hb.frozen (p := ⟨g, 0 + j, none⟩) h.lt]
    exact this
  lt := Nat.lt_of_lt_of_le h.lt hb.size
  bel := h.bel.trans (hb.mono h.bel.size)
end Go.Proofs.YtgohddimnphbkaaDoor
