/- What Sort, Check, Merge and alive of lines are to answer: as statements that the walks of the outright statements stand on. -/
import Derived.Test.YtmpppdbomdepoaaGreatDoorSoList
import Derived.Test.YtmpppdbomdepoaaGreatDoorKyRow
namespace Go.Proofs.YtmpppdbomdepoaaGreatDoor.So
open Go.RowKit Ky
open Pa (Tx)

def AliveSays : Prop := ∀ W : World, Calls Tryz.prog 14 #[] W fun e w' => e = .returned (.bool true) ∧ Below W.heap.size W w'
def SortSays : Prop := ∀ (o : Ky.Ord) (u : Bool) (A : Ls) (a : Option Addr) (la ca : Nat) (w : World), Tx w a la ca A → la ≤ 4611686018427387904 → ca ≤ 9223372036854775807 → (la ≤ 65536 → ∀ s ∈ A, s.size ≤ 1073741000) →
  Calls Tryz.prog 16 #[ov o, .slice a la ca, .bool u] w fun e w' => ∃ v, e = .returned (.tuple #[v, .int .i64 (sortE o la)]) ∧ w'.ownsRow w.heap.size 9 1 v (sortA o u A).length (strs (sortA o u A)) ∧ Below w.heap.size w w'
def CheckSays : Prop := ∀ (o : Ky.Ord) (u : Bool) (A : Ls) (a : Option Addr) (la ca : Nat) (w : World), Tx w a la ca A → la ≤ 4611686018427387904 → (∀ s ∈ A, s.size ≤ 1073741000) →
  Calls Tryz.prog 22 #[ov o, .slice a la ca, .bool u] w fun e w' => e = .returned (.int .i64 (checkL o u A)) ∧ Below w.heap.size w w'
/-- a list of lists of lines, in memory -/
def LL (w : World) (a : Option Addr) (n : Nat) (As : List Ls) : Prop :=
  As.length = n ∧ (n = 0 ∨ ∃ g off, a = some ⟨g, off, none⟩ ∧ g < w.heap.size ∧ ∀ i, i < n → ∃ b lb cb, w.cell? ⟨g, off + i, none⟩ = some (.slice b lb cb) ∧ Tx w b lb cb (As.getD i []) ∧ cb ≤ 9223372036854775807)
def mergeE (o : Ky.Ord) (As : List Ls) : Int := if okO o = false then 1 else if As.any (fun A => decide (¬ checkL o false A = -1)) = true then 1 else if 65536 < As.flatten.length then 3 else 0
def mergeA (o : Ky.Ord) (As : List Ls) : Ls := if mergeE o As = 0 then sortL o false As.flatten else []
def MergeSays : Prop := ∀ (o : Ky.Ord) (As : List Ls) (a : Option Addr) (n cap : Nat) (w : World), LL w a n As → n ≤ 1048577 → As.flatten.length ≤ 4611686018427387904 → (∀ A ∈ As, ∀ s ∈ A, s.size ≤ 1073741000) →
  Calls Tryz.prog 7 #[ov o, .slice a n cap] w fun e w' => ∃ v, e = .returned (.tuple #[v, .int .i64 (mergeE o As)]) ∧ w'.ownsRow w.heap.size 9 1 v (mergeA o As).length (strs (mergeA o As)) ∧ Below w.heap.size w w'
end Go.Proofs.YtmpppdbomdepoaaGreatDoor.So
