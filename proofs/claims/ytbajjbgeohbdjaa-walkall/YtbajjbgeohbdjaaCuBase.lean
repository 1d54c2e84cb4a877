/- Texts and lists of bytes in memory: small facts. -/
import Derived.Test.YtbajjbgeohbdjaaCuPlain
import Derived.WalkSpells
import Derived.MapKept
import Derived.Carry
import Derived.Deep.QuietTactic
import Derived.BigQuiet
import Derived.Lib.AppendStr
import Derived.Lib.Builder
import Derived.Lib.Strings
import Derived.Laws.AppendOwnNone
import Derived.Laws.OwnMore
import Derived.Lib.UnsafeStr
namespace Go.Proofs.Ytbajjbgeohbdjaa.Cu
open Go.RowKit

abbrev bs (s : ByteArray) : Bs := s.data.toList
theorem bs_len (s : ByteArray) : (bs s).length = s.size := rfl
theorem bs_at (s : ByteArray) (i : Nat) (h : i < s.size) : (bs s).drop i = s[i] :: (bs s).drop (i + 1) := List.drop_eq_getElem_cons (by simpa using h)
theorem bs_end (s : ByteArray) (i : Nat) (h : s.size ≤ i) : (bs s).drop i = [] := List.drop_eq_nil_of_le (by simpa using h)
theorem bs_ext (s : ByteArray) (i j : Nat) : bs (s.extract i j) = ((bs s).drop i).take (j - i) := by rw [Lib.extract_eq]
theorem bs_from (s : ByteArray) (i : Nat) : bs (s.extract i s.size) = (bs s).drop i := by
  rw [bs_ext, List.take_of_length_le (by rw [List.length_drop, bs_len]; exact Nat.le_refl _)]
theorem bs_to (s : ByteArray) (j : Nat) : bs (s.extract 0 j) = (bs s).take j := by rw [bs_ext]; rfl
theorem ba_ext {a b : ByteArray} (h : bs a = bs b) : a = b := by
  obtain ⟨x⟩ := a; obtain ⟨y⟩ := b
  congr 1
  exact Array.toList_inj.1 h
theorem size_from (s : ByteArray) (i : Nat) : (s.extract i s.size).size = s.size - i := by
  rw [← bs_len, bs_from, List.length_drop, bs_len]
theorem wrap_byte (n : Nat) : IntKind.u8.wrap (n : Int) = (n : Int) % 256 := by
  simp [IntKind.wrap, IntKind.signed, IntKind.bits]
theorem below_drew (w : World) (q : Nat) : Below w.heap.size w (w.drewN q) := ⟨rfl, rfl, rfl, Nat.le_refl _, fun _ _ => rfl⟩
theorem u8_ne {a b : UInt8} (h : ¬ (a.toNat : Int) = (b.toNat : Int)) : a ≠ b := fun e => h (by rw [e])
theorem u8_eq {a b : UInt8} (h : (a.toNat : Int) = (b.toNat : Int)) : a = b := UInt8.toNat_inj.1 (by omega)
theorem bs_one (s : ByteArray) (h : 0 < s.size) : bs s = s[0] :: (bs s).drop 1 := by
  have := bs_at s 0 h
  rwa [List.drop_zero] at this
theorem Try.infoByte : (Try.prog.info? 5).map (fun i => (i.zero, i.size, i.bytes)) = some (some (.int .u8 0), 1, 1) := by kernel_rfl
abbrev Row (B : Nat) (v : Value) (l : Bs) (w : World) : Prop := w.ownsRow B 5 1 v l.length (Lib.byteCells l)
theorem byte_new (w : World) (x : Value) (e : TypeId) : ∀ j u, [x][j]? = some u → (w.alloc (.cells #[x] e)).cell? ((⟨w.heap.size, 0, none⟩ : Addr).add j) = some u := by
  intro j u hj
  match j, hj with
  | 0, hj => simp at hj; subst hj; simp [Addr.add]
theorem byte_one (c : Int) : ∀ u ∈ [Value.int .u8 c], u.oneCell' = true := by
  intro u hu; simp at hu; subst hu; rfl
theorem row_snoc {w : World} {B : Nat} {v : Value} {l : Bs} {c : UInt8} {x : Int} (h : w.ownsRow B 5 1 v (l.length + 1) (Lib.byteCells l ++ [.int .u8 x])) (hx : x = c.toNat) : Row B v (l ++ [c]) w := by
  subst hx
  simpa [Row, Lib.byteCells] using h
theorem row_nil (w : World) (B : Nat) : Row B (.slice none 0 0) [] w := World.ownsRow_nil _ _ _ _
theorem row_slice {w : World} {B : Nat} {v : Value} {l : Bs} (h : Row B v l w) : ∃ a c, v = .slice a l.length c := by
  rcases h.2 with ⟨hv, h0⟩ | ⟨g, cap, cur, hv, _⟩
  · exact ⟨none, 0, by rw [hv, h0]⟩
  · exact ⟨_, _, hv⟩
theorem row_zero {w : World} {B g n cap : Nat} {l : Bs} (h : Row B (.slice (some ⟨g, 0, none⟩) n cap) l w) : Row B (.slice (some ⟨g, 0, none⟩) 0 cap) [] w := by
  rcases h.2 with ⟨h1, _⟩ | ⟨g', cap', cur, hv, hb, hg, h1, h2, h3, h4⟩
  · simp at h1
  · simp at hv
    obtain ⟨rfl, _, rfl⟩ := hv
    exact ⟨rfl, .inr ⟨g, cap, cur, rfl, hb, hg, Nat.zero_le _, h2, h3, by simp [Lib.byteCells]⟩⟩
theorem row_some {w : World} {B : Nat} {v : Value} {l : Bs} (h : Row B v l w) (h0 : 0 < l.length) : ∃ g c, v = .slice (some ⟨g, 0, none⟩) l.length c := by
  rcases h.2 with ⟨hv, h1⟩ | ⟨g, cap, cur, hv, _⟩
  · omega
  · exact ⟨_, _, hv⟩
theorem row_lo {w : World} {B : Nat} {v : Value} {l : Bs} (h : Row B v l w) : ∀ k, v.ownBlock = some k → B ≤ k := fun k hk => (h.lt k hk).1
theorem row_base {w : World} {B B' : Nat} {v : Value} {l : Bs} (h : Row B v l w) (hb : B' ≤ B) : Row B' v l w := by
  refine ⟨h.1, ?_⟩
  rcases h.2 with hn | ⟨g, cap, cur, rfl, hg, rest⟩
  · exact .inl hn
  · exact .inr ⟨g, cap, cur, rfl, by omega, rest⟩
theorem row_below {w w' : World} {B : Nat} {v : Value} {l : Bs} (h : Row B v l w) (hb : Below w.heap.size w w') : Row B v l w' :=
  h.kept (row := none) ⟨hb.os, hb.tape, hb.output, hb.size, fun k hk _ => hb.block k hk⟩ (by cases v.ownBlock <;> simp)
theorem grown_alloc {w w2 : World} {o : Obj} {row : Option Nat} (h : (w.alloc o).grownBy w2 row) : w.grownBy w2 row :=
  ⟨h.os, h.tape, h.output, Nat.le_trans (by simp) h.size, fun k hk hne => (h.block k (by simp; omega) hne).trans (Below.heap_alloc w o k hk)⟩
end Go.Proofs.Ytbajjbgeohbdjaa.Cu
