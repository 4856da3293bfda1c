import Derived.Test.YtbmpeadoicjpnaaMab
import Derived.Lib.SlBytesConst

/-
  Slices of bytes written out in the text; a slice of bytes as a string.
-/
namespace Go.Proofs.Ytbmpeadoicjpnaa
open Go.RowKit

theorem sl_lit (f : Nat → Value) (M : Nat) (w : World) (xs : List Nat) (cs : Array Value) (t : TypeId) (fr : Nat × Nat) (n : Nat) (hcs : cs = (xs.map f).toArray) (hn : xs.length = n) (hl : ∀ x ∈ xs, x < M) (hm : n ≤ maxLen) : SlAt f M (w.alloc (.cells cs t fr)) (some ⟨w.heap.size, 0, none⟩) n xs := by
  subst hcs hn
  refine ⟨hl, Nat.le_refl _, hm, (fun e => by cases e), fun i hi => ⟨w.heap.size, 0, rfl, by simp, ?_⟩⟩
  rw [Nat.zero_add]
  have h := World.news_of_block (cs := (xs.map f).toArray) (fr := fr) (heap_alloc_new w (.cells (xs.map f).toArray t fr)) i (f xs[i]) (by simp [List.getElem?_eq_getElem hi])
  rw [add_spot, Nat.zero_add] at h
  exact h

def strB (xs : List Nat) : ByteArray := strOfNums (xs.map fun (x : Nat) => (x : Int))

/-- A slice of bytes as a string. -/
theorem conv_any {w : World} {a : Option Addr} {cap len : Nat} {xs : List Nat} (hs : SlAt bV 256 w a cap xs) (hl : xs.length = len) :
    (convert 37 9 (.slice a len cap)).run Try.prog w = .ok (.string (strB xs)) w := by
  subst hl
  cases a with
  | none =>
    have := hs.nil rfl
    have := hs.fit
    obtain rfl : xs = [] := List.length_eq_zero_iff.1 (by omega)
    exact run_convert_bytes_nil w 37 5 Try.underlying37 Try.underlying5 _ _ 9 Try.underlying9
  | some ad =>
    have hlo : (loadCells ad xs.length).run Try.prog w = .ok ((xs.map fun (x : Nat) => (x : Int)).map (Value.int .u8)).toArray w := by
      have := run_loadCells_list (P := Try.prog) w ad (xs.map bV) (fun j v hj => hs.news ad rfl j v hj)
      rw [show (xs.map fun (x : Nat) => (x : Int)).map (Value.int .u8) = xs.map bV by rw [List.map_map]; rfl]
      simpa using this
    rw [run_convert_bytes_string w 37 9 5 _ xs.length cap Try.underlying37 Try.underlying5 Try.underlying9, run_bytesToString w _ xs.length cap _ hlo, foldl_push_bytes]
    simp [strB, strOfNums, ByteArray.empty, ByteArray.emptyWithCapacity]
    rfl

end Go.Proofs.Ytbmpeadoicjpnaa
