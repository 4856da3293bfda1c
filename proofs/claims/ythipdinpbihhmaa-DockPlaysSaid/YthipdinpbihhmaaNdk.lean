/-
  The program's dock, in memory.
-/
import Derived.Test.YthipdinpbihhmaaNseq
import Derived.Test.YthipdinpbihhmaaNst
import Derived.Test.YthipdinpbihhmaaGclo
namespace Go.Proofs.Ythipdinpbihhmaa
open Go.RowKit

/-- Any value, as it is. -/
def anyR (v : Value) : Option (DataW Value × List MemPlace) := some (.held v, [])

/-- What a map tells of those that it holds. -/
structure Vw (D : DataW Value) (E : List (Nat × Bd)) : Prop where
  look : ∀ n z, D.atKey (kN n) z = (match E.lookup n with | some b => .held (bdV b) | none => z)
  has : ∀ n, Maps.has D (kN n) = (E.lookup n).isSome
  size : Maps.size D = E.length

theorem vw_nil : Vw (.map []) [] := ⟨fun _ _ => rfl, fun _ => rfl, rfl⟩
theorem Vw.put {D : DataW Value} {E : List (Nat × Bd)} (h : Vw D E) (hT : Maps.Tidy D) (n : Nat) (b : Bd) (hn : E.lookup n = none) : Vw (D.put (kN n) (.held (bdV b))) (ins n b E) := by
  refine ⟨fun m z => ?_, fun m => ?_, ?_⟩
  · by_cases e : m = n
    · subst e
      rw [Maps.atKey_put_same hT.isMap (kN_key m), lookup_same b E hn]
    · rw [Maps.atKey_put_other (fun e' => e (kN_inj e')), lookup_other b e, h.look]
  · by_cases e : m = n
    · subst e
      rw [Maps.has_put_same hT.isMap (kN_key m), lookup_same b E hn]
      rfl
    · rw [Maps.has_put_other (fun e' => e (kN_inj e')), lookup_other b e, h.has]
  · rw [Maps.size_put hT, h.has, hn, ins_len, h.size]
    rfl
theorem Vw.del {D : DataW Value} {n hi : Nat} {b : Bd} {t : List (Nat × Bd)} (h : Vw D ((n, b) :: t)) (hT : Maps.Tidy D) (hu : Up n hi ((n, b) :: t)) : Vw (D.del (kN n)) t := by
  have hn : t.lookup n = none := lookup_none.2 (fun x hx => by have := (hu.tail.2 x hx).1; simp only at this; omega)
  refine ⟨fun m z => ?_, fun m => ?_, ?_⟩
  · by_cases e : m = n
    · subst e
      rw [Maps.atKey_del_same, hn]
    · rw [Maps.atKey_del_other (fun e' => e (kN_inj e')), h.look, lookup_cons', if_neg e]
  · by_cases e : m = n
    · subst e
      rw [Maps.has_del_same, hn]
      rfl
    · rw [Maps.has_del_other (fun e' => e (kN_inj e')), h.has, lookup_cons', if_neg e]
  · have := Maps.size_del hT (k := kN n)
    rw [h.has, lookup_cons', if_pos rfl, h.size] at this
    simpa using this

/-- Its cells. -/
def dkC (win next q : Nat) : Nat → Value
  | 0 => .int .u64 ((win : Nat) : Int)
  | 1 => .int .u64 ((next : Nat) : Int)
  | _ => .map (some q)

/-- A dock in block p, its map in block q; bodies from block M on. -/
structure DkV (w : World) (p q M win next : Nat) (E : List (Nat × Bd)) : Prop where
  c : Cel 3 w p (dkC win next q)
  pM : p < M
  qM : q < M
  ne : p ≠ q
  size : M ≤ w.heap.size
  map : ∃ D, w.ownsMap Try.prog 30 anyR q E.length D ∧ Vw D E
  body : ∀ x ∈ E, BodyV (fun k => M ≤ k) w x.2

def DkAt (w : World) (p q M : Nat) (S : Dk) : Prop := ∃ E, DkV w p q M S.win S.next E ∧ mapN Bd.s E = S.held

theorem ownsMap_tight {w : World} {b n : Nat} {D : DataW Value} (h : w.ownsMap Try.prog 30 anyR b n D) {m : Nat} (hm : Maps.size D = m) : w.ownsMap Try.prog 30 anyR b m D := by
  obtain ⟨es, clock, hb, F, _, rfl⟩ := h
  refine ⟨es, clock, hb, F, ?_, rfl⟩
  rw [← hm]
  simp [Maps.size, length_sorted]
theorem ownsMap_block {w w' : World} {b n : Nat} {D : DataW Value} (h : w.ownsMap Try.prog 30 anyR b n D) (hb : w'.heap[b]? = w.heap[b]?) : w'.ownsMap Try.prog 30 anyR b n D := by
  obtain ⟨es, clock, h1, r⟩ := h
  exact ⟨es, clock, hb.trans h1, r⟩

section
variable {w w' : World} {p q M win next : Nat} {E : List (Nat × Bd)} {S : Dk} {F : Nat → Prop}
/-- It stays while others are written, below M. -/
theorem DkV.keep (h : DkV w p q M win next E) (hk : Keep F w w') (hp : ¬ F p) (hq : ¬ F q) (hF : ∀ k, k < w.heap.size → M ≤ k → ¬ F k) : DkV w' p q M win next E := by
  obtain ⟨D, hD, hV⟩ := h.map
  refine ⟨h.c.keep hk hp, h.pM, h.qM, h.ne, Nat.le_trans h.size hk.size, ⟨D, ownsMap_block hD (hk.block q (Nat.lt_of_lt_of_le h.qM h.size) hq), hV⟩, fun x hx => (h.body x hx).carry hk.size (fun k hk1 hk2 => hk.block k hk1 (hF k hk1 hk2))⟩
theorem DkV.below (h : DkV w p q M win next E) (hb : Below w.heap.size w w') : DkV w' p q M win next E := h.keep (F := fun _ => False) (Keep.ofBelow hb) id id (fun _ _ _ => id)
theorem DkAt.keep (h : DkAt w p q M S) (hk : Keep F w w') (hp : ¬ F p) (hq : ¬ F q) (hF : ∀ k, k < w.heap.size → M ≤ k → ¬ F k) : DkAt w' p q M S := by
  obtain ⟨E, h1, h2⟩ := h
  exact ⟨E, h1.keep hk hp hq hF, h2⟩
theorem DkAt.below (h : DkAt w p q M S) (hb : Below w.heap.size w w') : DkAt w' p q M S := h.keep (F := fun _ => False) (Keep.ofBelow hb) id id (fun _ _ _ => id)
theorem DkV.cells (h : DkV w p q M win next E) : w.cell? ⟨p, 0, none⟩ = some (.int .u64 ((win : Nat) : Int)) ∧ w.cell? ⟨p, 1, none⟩ = some (.int .u64 ((next : Nat) : Int)) ∧ w.cell? ⟨p, 2, none⟩ = some (.map (some q)) :=
  ⟨h.c.c 0 (by decide), h.c.c 1 (by decide), h.c.c 2 (by decide)⟩
end

theorem keyed : Maps.Keyed Try.prog 30 := Maps.int_keyed Try.underlying30
theorem keyOf_n {n : Nat} (hn : n < 18446744073709551616) : keyOf Try.prog 30 (uN n) = some (kN n) := by
  have hw : (Lit.int .u64 ((n : Nat) : Int)).wf = true := by
    simp [Lit.wf, IntKind.min, IntKind.max, IntKind.bits, IntKind.signed]
    omega
  exact Maps.keyOf_int_mk Try.underlying30 hw
theorem zero_b (w : World) : (zeroValue 31).run Try.prog w = .ok (.slice none 0 0) w := by
  obtain ⟨i, hi, hz, -, -⟩ := info_g Try.infoBs
  simp [zeroValue, typeInfo, hi, hz, go_sem]

section
variable {W : World} {p q M : Nat} {S : Dk}

theorem next_any (h : DkAt W p q M S) : Calls Try.prog 15 #[.pointer (some ⟨p, 0, none⟩)] W fun e w' => e = .returned (.int .u64 (S.next : Nat)) ∧ w' = W := by
  obtain ⟨E, h, -⟩ := h
  obtain ⟨c0, c1, c2⟩ := h.cells
  clear h
  go_enter Try.func15, Try.ntmps15
  go_wp2_with fail
  go_ret
  exact ⟨rfl, rfl⟩

theorem within_any {win next num : Nat} {E : List (Nat × Bd)} (h : DkV W p q M win next E) (hn : num < 18446744073709551616) (hx : next ≤ 1000000) (b : Bool) (hb : (decide (next ≤ num) && decide (num - next < win)) = b) :
    Calls Try.prog 16 #[.pointer (some ⟨p, 0, none⟩), .int .u64 (num : Nat)] W fun e w' => e = .returned (.bool b) ∧ ∃ k, w' = W.drewN k := by
  obtain ⟨c0, c1, c2⟩ := h.cells
  clear h
  by_cases h1 : next ≤ num
  · obtain ⟨d, hd⟩ : ∃ d, d = num - next := ⟨_, rfl⟩
    have wd : IntKind.u64.wrap ((num : Int) - (next : Int)) = (d : Int) := by
      simp only [IntKind.wrap, IntKind.bits, IntKind.signed]
      simp
      omega
    have g1 : decide ((num : Int) ≥ (next : Int)) = true := decide_eq_true (by omega)
    have g2 : decide (next ≤ num) = true := decide_eq_true h1
    rw [g2, ← hd, Bool.true_and] at hb
    have g3 : decide ((d : Int) < (win : Int)) = b := by rw [← hb]; simp
    clear hd h1
    go_enter Try.func16, Try.ntmps16
    go_wp2_with fail
    go_quiet (fail)
    go_wp2_with fail
    go_ret
    exact ⟨by first | rfl | simp_all, _, rfl⟩
  · have g1 : decide ((num : Int) ≥ (next : Int)) = false := decide_eq_false (by omega)
    have g2 : decide (next ≤ num) = false := decide_eq_false h1
    rw [g2, Bool.false_and] at hb
    subst hb
    clear h1
    go_enter Try.func16, Try.ntmps16
    go_wp2_with fail
    go_quiet (fail)
    go_wp2_with fail
    go_ret
    exact ⟨rfl, _, rfl⟩

end
end Go.Proofs.Ythipdinpbihhmaa
