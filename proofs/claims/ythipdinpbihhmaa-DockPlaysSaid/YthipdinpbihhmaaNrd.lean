/-
  The document's own dock, in memory.
-/
import Derived.Test.YthipdinpbihhmaaNord
import Derived.Test.YthipdinpbihhmaaWreg
import Derived.Deep.Cut
namespace Go.Proofs.Ythipdinpbihhmaa
open Go.RowKit

theorem Try.infoRi : (Try.prog.info? 48).map (fun i => (i.zero, i.size, i.bytes)) = some (some (.agg #[.int .u64 0, .string ⟨#[]⟩]), 2, 24) := by kernel_rfl
theorem Try.infoSs : (Try.prog.info? 9).map (fun i => (i.zero, i.size, i.bytes)) = some (some (.string ⟨#[]⟩), 1, 16) := by kernel_rfl

/-- The cells of what is held: a number, a string. -/
def dI : List (Nat × ByteArray) → List Value
  | [] => []
  | x :: t => uN x.1 :: .string x.2 :: dI t
theorem dI_len : ∀ L : List (Nat × ByteArray), (dI L).length = L.length * 2
  | [] => rfl
  | x :: t => by rw [dI, List.length_cons, List.length_cons, dI_len t, List.length_cons]; omega
theorem dI_append : ∀ L M : List (Nat × ByteArray), dI (L ++ M) = dI L ++ dI M
  | [], _ => rfl
  | x :: t, M => by rw [List.cons_append, dI, dI, dI_append t M]; rfl
theorem dI_take (k : Nat) (L : List (Nat × ByteArray)) (hk : k ≤ L.length) : (dI L).take (k * 2) = dI (L.take k) := by
  have h : dI L = dI (L.take k) ++ dI (L.drop k) := by rw [← dI_append, List.take_append_drop]
  rw [h, List.take_left' (by rw [dI_len, List.length_take, Nat.min_eq_left hk])]
theorem dI_drop (k : Nat) (L : List (Nat × ByteArray)) (hk : k ≤ L.length) : (dI L).drop (k * 2) = dI (L.drop k) := by
  have h : dI L = dI (L.take k) ++ dI (L.drop k) := by rw [← dI_append, List.take_append_drop]
  rw [h, List.drop_left' (by rw [dI_len, List.length_take, Nat.min_eq_left hk])]
theorem dI_at : ∀ (i : Nat) (L : List (Nat × ByteArray)) (hi : i < L.length), (dI L)[i * 2]? = some (uN L[i].1) ∧ (dI L)[i * 2 + 1]? = some (.string L[i].2)
  | 0, x :: t, _ => ⟨rfl, rfl⟩
  | i + 1, x :: t, hi => by
    have := dI_at i t (by simpa using hi)
    rw [show (i + 1) * 2 = i * 2 + 1 + 1 by omega, dI, List.getElem?_cons_succ, List.getElem?_cons_succ, List.getElem?_cons_succ, List.getElem?_cons_succ, this.1, this.2]
    exact ⟨rfl, rfl⟩
theorem dI_one : ∀ (L : List (Nat × ByteArray)), ∀ u ∈ dI L, u.oneCell' = true
  | [], _, h => by cases h
  | x :: t, u, h => by
    rcases List.mem_cons.1 h with rfl | h
    · rfl
    · rcases List.mem_cons.1 h with rfl | h
      · rfl
      · exact dI_one t u h

def rdC (win next : Nat) (v : Value) : Nat → Value
  | 0 => .int .i64 ((win : Nat) : Int)
  | 1 => .int .u64 ((next : Nat) : Int)
  | _ => v
/-- It writes into its block r alone; its rows lie from M on. -/
structure RdV (A : Nat → Prop) (w : World) (r M win next : Nat) (a : Option Addr) (cap : Nat) (L : List (Nat × ByteArray)) : Prop where
  c : Cel 3 w r (rdC win next (.slice a L.length cap))
  rM : r < M
  size : M ≤ w.heap.size
  row : RowV A w a cap L.length 2 (dI L)
def RdAt (w : World) (r M : Nat) (S : Dk) : Prop := ∃ a cap, RdV (fun k => M ≤ k) w r M S.win S.next a cap S.held

section
variable {A : Nat → Prop} {w w' : World} {r M win next cap : Nat} {a : Option Addr} {L : List (Nat × ByteArray)} {F : Nat → Prop} {S : Dk}
theorem RdV.cells (h : RdV A w r M win next a cap L) : w.cell? ⟨r, 0, none⟩ = some (.int .i64 ((win : Nat) : Int)) ∧ w.cell? ⟨r, 1, none⟩ = some (.int .u64 ((next : Nat) : Int)) ∧ w.cell? ⟨r, 2, none⟩ = some (.slice a L.length cap) :=
  ⟨h.c.c 0 (by decide), h.c.c 1 (by decide), h.c.c 2 (by decide)⟩
theorem RdV.keep (h : RdV A w r M win next a cap L) (hk : Keep F w w') (hr : ¬ F r) (hF : ∀ k, k < w.heap.size → A k → ¬ F k) : RdV A w' r M win next a cap L :=
  ⟨h.c.keep hk hr, h.rM, Nat.le_trans h.size hk.size, h.row.carry hk.size (fun k h1 h2 => hk.block k h1 (hF k h1 h2))⟩
theorem RdV.below (h : RdV A w r M win next a cap L) (hb : Below w.heap.size w w') : RdV A w' r M win next a cap L := h.keep (F := fun _ => False) (Keep.ofBelow hb) id (fun _ _ _ => id)
theorem RdV.drewN (h : RdV A w r M win next a cap L) (q : Nat) : RdV A (w.drewN q) r M win next a cap L := h.below ⟨rfl, rfl, rfl, Nat.le_refl _, fun _ _ => rfl⟩
theorem RdAt.keep (h : RdAt w r M S) (hk : Keep F w w') (hr : ¬ F r) (hF : ∀ k, k < w.heap.size → M ≤ k → ¬ F k) : RdAt w' r M S := by
  obtain ⟨a, cap, h⟩ := h
  exact ⟨a, cap, h.keep hk hr hF⟩
theorem RdAt.below (h : RdAt w r M S) (hb : Below w.heap.size w w') : RdAt w' r M S := h.keep (F := fun _ => False) (Keep.ofBelow hb) id (fun _ _ _ => id)

/-- Where a number stands. -/
theorem ins_split {n : Nat} {s : ByteArray} : ∀ {L : List (Nat × ByteArray)} {k : Nat}, k ≤ L.length → (∀ i (h : i < L.length), i < k → L[i].1 < n) → (∀ h : k < L.length, n ≤ L[k].1) → ins n s L = L.take k ++ (n, s) :: L.drop k
  | [], k, h1, _, _ => by
    obtain rfl : k = 0 := by simpa using h1
    rfl
  | x :: t, 0, _, _, h3 => by
    rw [ins, if_neg (by have := h3 (Nat.succ_pos _); simp only [List.getElem_cons_zero] at this; omega)]
    rfl
  | x :: t, k + 1, h1, h2, h3 => by
    rw [ins, if_pos (show x.1 < n from h2 0 (Nat.succ_pos _) (Nat.succ_pos _)), ins_split (k := k) (by simpa using h1) (fun i h hi => h2 (i + 1) (by rw [List.length_cons]; omega) (by omega)) (fun h => h3 (by rw [List.length_cons]; omega))]
    rfl
theorem look_no {n k : Nat} {L : List (Nat × ByteArray)} (hp : L.Pairwise (fun x y => x.1 < y.1)) (h2 : ∀ i (h : i < L.length), i < k → L[i].1 < n) (h3 : ∀ h : k < L.length, n < L[k].1) : L.lookup n = none := by
  refine lookup_none.2 (fun x hx e => ?_)
  obtain ⟨i, hi, rfl⟩ := List.mem_iff_getElem.1 hx
  rcases Nat.lt_or_ge i k with h | h
  · have := h2 i hi h
    omega
  · have hk : k < L.length := by omega
    have := h3 hk
    rcases Nat.eq_or_lt_of_le h with e2 | e2
    · subst e2; omega
    · have := List.pairwise_iff_getElem.1 hp k i hk hi e2
      omega
theorem look_yes {k : Nat} {L : List (Nat × ByteArray)} (hk : k < L.length) : (L.lookup L[k].1).isSome = true := by
  rw [← mem_keys]
  exact List.mem_map.2 ⟨L[k], List.getElem_mem _, rfl⟩
end

theorem lit2_row (w : World) (u v : Value) (cs : Array Value) (t : TypeId) (hcs : cs = #[u, v]) : RowV (fun k => k = w.heap.size) (w.alloc (.cells cs t)) (some ⟨w.heap.size, 0, none⟩) 1 1 2 [u, v] := by
  subst hcs
  refine ⟨rfl, Nat.le_refl _, by unfold maxLen; omega, (fun e => by cases e), fun j x hj => ⟨w.heap.size, 0, rfl, by simp, rfl, ?_⟩⟩
  have h := World.news_of_block (cs := #[u, v]) (fr := (0, 0)) (heap_alloc_new w (.cells #[u, v] t)) j x hj
  rw [Addr.add_lit] at h
  exact h
theorem none_own (w : World) (e : TypeId) (B sz : Nat) (hB : B ≤ w.heap.size) : (w.alloc (.cells #[] e)).ownsRow B e sz (.slice (some ⟨w.heap.size, 0, none⟩) 0 0) 0 [] :=
  World.ownsRow_lit (base := B) (e := e) (size := sz) w #[] 0 hB (by unfold maxLen; omega) (by simp)

/-- Another row is stored. -/
theorem rd_put {wc w4 w5 : World} {r M win next co m cap4 : Nat} {ao a4 : Option Addr} {L L' : List (Nat × ByteArray)} (hR : RdV (fun k => M ≤ k) wc r M win next ao co L) (hb : Below wc.heap.size wc w4) (hm : m = L'.length)
    (hown : w4.ownsRow wc.heap.size 48 2 (.slice a4 m cap4) m (dI L')) (h5 : Alike (w4.setCell ⟨r, 2, none⟩ (.slice a4 m cap4)) w5) :
    (∃ a c, RdV (fun k => M ≤ k) w5 r M win next a c L') ∧ Keep (fun k => k = r) wc w5 := by
  subst hm
  have k5 : Keep (fun k => k = r) wc w5 := h5.keep ((Keep.ofBelow (F := fun k => k = r) hb).setCell (p := ⟨r, 2, none⟩) rfl _)
  have hrM := hR.rM
  have hsz := hR.size
  refine ⟨⟨a4, cap4, ?_, hrM, Nat.le_trans hR.size k5.size, ?_⟩, k5⟩
  · refine Cel.conv (Cel.keep (F := fun _ => False) ((hR.c.below hb).put 2 _) (h5.keep (Keep.refl _ _)) id) (fun o ho => ?_)
    match o, ho with
    | 0, _ => rfl
    | 1, _ => rfl
    | 2, _ => rfl
  · obtain ⟨a', c', e, hr⟩ := own_row hown
    cases e
    have h6 : w5.heap.size = w4.heap.size := by rw [h5.1]; simp [World.setCell]
    refine (hr.mono (A' := fun k => wc.heap.size ≤ k) (fun k _ hk => (hown.lt k hk).1)).carry (by omega) (fun k hk hA => ?_) |>.mono (fun k _ h => Nat.le_trans hsz h)
    rw [h5.1]
    exact Below.heap_setCell _ ⟨r, 2, none⟩ _ _ (by show k ≠ r; omega)

def RdNewPost (W : World) (win : Nat) (e : Ending) (w : World) : Prop := ∃ r, e = .returned (.pointer (some ⟨r, 0, none⟩)) ∧ RdAt w r w.heap.size (Dk.new win) ∧ W.heap.size ≤ r ∧ Below W.heap.size W w
theorem rd_new (win : Nat) (W : World) : Calls Try.prog 13 #[.int .i64 (win : Nat)] W (RdNewPost W win) := by
  have P := Lib.hid (show RdNewPost W win (.returned (.pointer (some ⟨W.heap.size, 0, none⟩))) (W.alloc (.cells #[.int .i64 ((win : Nat) : Int), .int .u64 1, .slice none 0 0] 46)) from by
    have hc := Cel.new W [.int .i64 ((win : Nat) : Int), .int .u64 1, .slice none 0 0] 46
    refine ⟨_, rfl, ⟨none, 0, ⟨hc.conv (fun o ho => ?_), by simp, Nat.le_refl _, RowV.none _ _ _⟩⟩, Nat.le_refl _, (Below.refl _ _).alloc (Nat.le_refl _) _⟩
    match o, ho with
    | 0, _ => rfl
    | 1, _ => rfl
    | 2, _ => rfl)
  go_enter Try.func13, Try.ntmps13
  go_wp2_with fail
  go_ret
  exact P.out

end Go.Proofs.Ythipdinpbihhmaa
