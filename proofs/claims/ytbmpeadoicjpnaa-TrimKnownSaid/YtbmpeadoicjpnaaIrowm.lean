import Derived.Test.YtbmpeadoicjpnaaMad
import Derived.Test.YtbmpeadoicjpnaaGmemm
import Derived.Test.YtbmpeadoicjpnaaMae
import Derived.Test.YtbmpeadoicjpnaaMac

/-
  Logs in memory: rows of entries of three cells.
-/
namespace Go.Proofs.Ytbmpeadoicjpnaa
open Go.RowKit

def xC (x : Le) : List Value := [.int .i64 x.f, .int .u64 (x.n : Int), .int .u64 (x.t : Int)]
def lgC (l : List Le) : List Value := l.flatMap xC
theorem lgC_nil : lgC [] = [] := rfl
theorem lgC_cons (x : Le) (l : List Le) : lgC (x :: l) = .int .i64 x.f :: .int .u64 (x.n : Int) :: .int .u64 (x.t : Int) :: lgC l := rfl
theorem lgC_append (l m : List Le) : lgC (l ++ m) = lgC l ++ lgC m := List.flatMap_append
theorem lgC_len : ∀ (l : List Le), (lgC l).length = l.length * 3
  | [] => rfl
  | x :: l => by rw [lgC_cons, List.length_cons, List.length_cons, List.length_cons, lgC_len l, List.length_cons]; omega
theorem lgC_at : ∀ (i : Nat) (l : List Le) (h : i < l.length), (lgC l)[i * 3]? = some (.int .i64 l[i].f) ∧ (lgC l)[i * 3 + 1]? = some (.int .u64 (l[i].n : Int)) ∧ (lgC l)[i * 3 + 2]? = some (.int .u64 (l[i].t : Int))
  | 0, x :: l, _ => ⟨rfl, rfl, rfl⟩
  | i + 1, x :: l, h => by
    have := lgC_at i l (by simpa using h)
    rw [show (i + 1) * 3 = i * 3 + 1 + 1 + 1 by omega, lgC_cons]
    simpa using this
theorem lgC_one (l : List Le) : ∀ u ∈ lgC l, u.oneCell' = true := fun u hu => by
  obtain ⟨x, -, hx⟩ := List.mem_flatMap.1 hu
  simp only [xC, List.mem_cons, List.not_mem_nil, or_false] at hx
  rcases hx with rfl | rfl | rfl <;> rfl
theorem lgC_take (l : List Le) (k : Nat) : (lgC l).take (k * 3) = lgC (l.take k) := by
  induction l generalizing k with
  | nil => simp [lgC]
  | cons x l ih =>
    cases k with
    | zero => simp [lgC]
    | succ k => rw [lgC_cons, show (k + 1) * 3 = k * 3 + 1 + 1 + 1 by omega, List.take_succ_cons, List.take_succ_cons, List.take_succ_cons, ih, List.take_succ_cons, lgC_cons]
theorem lgC_drop (l : List Le) (k : Nat) : (lgC l).drop (k * 3) = lgC (l.drop k) := by
  induction l generalizing k with
  | nil => simp [lgC]
  | cons x l ih =>
    cases k with
    | zero => simp
    | succ k => rw [lgC_cons, show (k + 1) * 3 = k * 3 + 1 + 1 + 1 by omega, List.drop_succ_cons, List.drop_succ_cons, List.drop_succ_cons, ih, List.drop_succ_cons]
theorem lgC_set (l : List Le) {k : Nat} (h : k < l.length) (t : Nat) : (lgC l).set (k * 3 + 2) (.int .u64 (t : Int)) = lgC (l.set k ⟨l[k].f, l[k].n, t⟩) := by
  induction l generalizing k with
  | nil => simp at h
  | cons x l ih =>
    cases k with
    | zero => rfl
    | succ k =>
      have hk : k < l.length := by simpa using h
      rw [lgC_cons, show (k + 1) * 3 + 2 = (k * 3 + 2) + 1 + 1 + 1 by omega, List.set_cons_succ, List.set_cons_succ, List.set_cons_succ, ih hk, List.set_cons_succ, lgC_cons]
      rfl

abbrev OkX (x : Le) : Prop := IntOk x.f ∧ x.n < 18446744073709551616 ∧ x.t < 18446744073709551616
/-- A slice of entries; what it has lies in blocks that A lets. -/
structure LgAt (A : Nat → Prop) (w : World) (a : Option Addr) (cap n : Nat) (l : List Le) : Prop where
  row : RowV A w a cap n 3 (lgC l)
  len : l.length = n
  ok : ∀ x ∈ l, OkX x
section
variable {A A' : Nat → Prop} {w w' : World} {a : Option Addr} {cap n : Nat} {l : List Le}
theorem LgAt.below (h : LgAt A w a cap n l) (hb : Below w.heap.size w w') : LgAt A w' a cap n l := ⟨h.row.below hb, h.len, h.ok⟩
theorem LgAt.mono (h : LgAt A w a cap n l) (hA : ∀ k, k < w.heap.size → A k → A' k) : LgAt A' w a cap n l := ⟨h.row.mono hA, h.len, h.ok⟩
theorem LgAt.keep {G : Nat → Prop} (h : LgAt A w a cap n l) (hk : Keep G w w') (hA : ∀ k, A k → ¬ G k) : LgAt A w' a cap n l := ⟨h.row.carry hk.size (fun k hl hk2 => hk.block k hl (hA k hk2)), h.len, h.ok⟩
theorem LgAt.drewN (h : LgAt A w a cap n l) (q : Nat) : LgAt A (w.drewN q) a cap n l := h.below ⟨rfl, rfl, rfl, Nat.le_refl _, fun _ _ => rfl⟩
theorem LgAt.nil (A : Nat → Prop) (w : World) : LgAt A w none 0 0 [] := ⟨RowV.none _ _ _, rfl, by simp⟩
theorem LgAt.all (h : LgAt A w a cap n l) : LgAt (fun _ => True) w a cap n l := h.mono (fun _ _ _ => trivial)
theorem LgAt.fit (h : LgAt A w a cap n l) : n ≤ cap ∧ cap ≤ maxLen := ⟨h.row.fit, h.row.max⟩
/-- An entry's cells. -/
theorem LgAt.cell (h : LgAt A w a cap n l) {i : Nat} (hi : i < n) : ∃ b off, a = some ⟨b, off, none⟩ ∧ b < w.heap.size ∧ A b ∧ w.cell? ⟨b, off + i * 3, none⟩ = some (.int .i64 (l.getD i default).f) ∧ w.cell? ⟨b, off + i * 3 + 1, none⟩ = some (.int .u64 ((l.getD i default).n : Int)) ∧ w.cell? ⟨b, off + i * 3 + 2, none⟩ = some (.int .u64 ((l.getD i default).t : Int)) := by
  have hl : i < l.length := by rw [h.len]; exact hi
  have e : l.getD i default = l[i] := by rw [List.getD, List.getElem?_eq_getElem hl]; rfl
  obtain ⟨c0, c1, c2⟩ := lgC_at i l hl
  obtain ⟨b, off, ea, hb, hA, h0⟩ := h.row.cell _ _ c0
  obtain ⟨b1, off1, ea1, -, -, h1⟩ := h.row.cell _ _ c1
  obtain ⟨b2, off2, ea2, -, -, h2⟩ := h.row.cell _ _ c2
  rw [ea] at ea1 ea2
  cases ea1
  cases ea2
  rw [e]
  exact ⟨b, off, ea, hb, hA, h0, by rw [Nat.add_assoc]; exact h1, by rw [Nat.add_assoc]; exact h2⟩
theorem LgAt.okAt (h : LgAt A w a cap n l) {i : Nat} (hi : i < n) : OkX (l.getD i default) := by
  have hl : i < l.length := by rw [h.len]; exact hi
  rw [List.getD, List.getElem?_eq_getElem hl]
  exact h.ok _ (List.getElem_mem hl)
theorem LgAt.take (h : LgAt A w a cap n l) (k : Nat) (hk : k ≤ n) : LgAt A w a cap k (l.take k) :=
  ⟨by rw [← lgC_take]; exact h.row.take k hk, by rw [List.length_take, h.len]; omega, fun x hx => h.ok x (List.mem_of_mem_take hx)⟩
theorem LgAt.drop (h : LgAt A w a cap n l) (k : Nat) (hk : k ≤ n) : LgAt A w (if cap = k then a else a.map (·.add (k * 3))) (cap - k) (n - k) (l.drop k) :=
  ⟨by rw [← lgC_drop]; exact h.row.drop k hk, by rw [List.length_drop, h.len], fun x hx => h.ok x (List.mem_of_mem_drop hx)⟩
end

/-- Entries of one's own. -/
structure OwnLg (T : TypeId) (B : Nat) (w : World) (s : Value) (l : List Le) : Prop where
  own : w.ownsRow B T 3 s l.length (lgC l)
  ok : ∀ x ∈ l, OkX x
section
variable {T : TypeId} {B : Nat} {w w' : World} {s : Value} {l : List Le}
theorem OwnLg.nil (w : World) : OwnLg T B w (.slice none 0 0) [] := ⟨World.ownsRow_nil _ _ _ _, by simp⟩
theorem OwnLg.below (h : OwnLg T B w s l) (hb : Below w.heap.size w w') : OwnLg T B w' s l := ⟨own_below h.own hb, h.ok⟩
theorem OwnLg.mono (h : OwnLg T B w s l) {B' : Nat} (hB : B' ≤ B) : OwnLg T B' w s l := ⟨own_mono h.own hB, h.ok⟩
theorem OwnLg.keep {G : Nat → Prop} (h : OwnLg T B w s l) (hk : Keep G w w') (hG : ∀ k, B ≤ k → k < w.heap.size → ¬ G k) : OwnLg T B w' s l :=
  ⟨own_carry h.own fun k e => hk.block k (h.own.lt k e).2 (hG k (h.own.lt k e).1 (h.own.lt k e).2), h.ok⟩
theorem OwnLg.form (h : OwnLg T B w s l) : ∃ a cap, s = .slice a l.length cap := by
  obtain ⟨a, cap, e, -⟩ := own_row h.own
  exact ⟨a, cap, e⟩
theorem OwnLg.at {a : Option Addr} {cap n : Nat} (h : OwnLg T B w (.slice a n cap) l) (hl : l.length = n) : LgAt (fun k => B ≤ k) w a cap n l := by
  obtain ⟨a2, c2, e, hr⟩ := own_row h.own
  rw [hl] at e hr
  simp only [Value.slice.injEq, true_and] at e
  obtain ⟨rfl, rfl⟩ := e
  exact ⟨hr.mono (fun k _ hk => (h.own.lt k hk).1), hl, h.ok⟩
/-- One more. -/
theorem OwnLg.push {w3 : World} {s' : Value} {x : Le} (h : OwnLg T B w s l) (hx : OkX x) (hown : w3.ownsRow B T 3 s' (l.length + 1) (lgC l ++ xC x)) : OwnLg T B w3 s' (l ++ [x]) := by
  refine ⟨?_, fun y hy => ?_⟩
  · rw [List.length_append, lgC_append]
    exact hown
  · rcases List.mem_append.1 hy with hy | hy
    · exact h.ok y hy
    · rw [List.mem_singleton.1 hy]; exact hx
end
theorem info_x {i? : Option TypeInfo} {z : Value} {s b : Nat} (h : i?.map (fun i => (i.zero, i.size, i.bytes)) = some (some z, s, b)) : ∃ i, i? = some i ∧ i.zero = some z ∧ i.size = s ∧ i.bytes = b := by
  cases i? with
  | none => cases h
  | some i =>
    simp only [Option.map_some, Option.some.injEq, Prod.mk.injEq] at h
    exact ⟨i, rfl, h.1, h.2.1, h.2.2⟩
/-- An entry written out in the text. -/
theorem ent_cells (w : World) (x : Le) (t : TypeId) : ∀ ad, (some ⟨w.heap.size, 0, none⟩ : Option Addr) = some ad → ∀ j u, (xC x)[j]? = some u → (w.alloc (.cells #[.int .i64 x.f, .int .u64 (x.n : Int), .int .u64 (x.t : Int)] t)).cell? (ad.add j) = some u := by
  intro ad e
  cases e
  exact World.news_of_block (cs := #[.int .i64 x.f, .int .u64 (x.n : Int), .int .u64 (x.t : Int)]) (fr := (0, 0)) (heap_alloc_new w (.cells #[.int .i64 x.f, .int .u64 (x.n : Int), .int .u64 (x.t : Int)] t))
theorem xC_one (x : Le) : ∀ u ∈ xC x, u.oneCell' = true := fun u hu => by
  simp only [xC, List.mem_cons, List.not_mem_nil, or_false] at hu
  rcases hu with rfl | rfl | rfl <;> rfl

end Go.Proofs.Ytbmpeadoicjpnaa
