/- What octalChanges and Parse answer. -/
import Derived.Test.YtijknodbaddelaaGreatDoorMoSplit
namespace Go.Proofs.YtijknodbaddelaaGreatDoor.Mo
open Go.RowKit Go.Shelf

theorem lit_own (w : World) (l : List Ch) (hl : l.length ≤ maxLen) : (w.alloc (.cells (cl l).toArray 54)).ownsRow w.heap.size 54 5 (.slice (some ⟨w.heap.size, 0, none⟩) l.length l.length) l.length (cl l) :=
  ⟨cl_length l, .inr ⟨w.heap.size, l.length, (cl l).toArray, rfl, Nat.le_refl _, heap_alloc_new w _, Nat.le_refl _, hl, by simp [cl_length], by rw [List.take_of_length_le (by simp [cl_length])]⟩⟩
set_option maxHeartbeats 400000 in
set_option maxRecDepth 100000 in
theorem octalChanges_any (m : Nat) (w : World) :
    Calls Tryz.prog 12 #[.int .i64 m] w fun e w' => ∃ v, e = .returned v ∧ w'.ownsRow w.heap.size 54 5 v 3 (cl (octL m)) ∧ Below w.heap.size w w' := by
  have P1 := hide (fun W => partOf_any (m : Int) 117 W)
  have P2 := hide (fun W => partOf_any (m : Int) 103 W)
  have P3 := hide (fun W => partOf_any (m : Int) 111 W)
  have HO := hide (fun W => lit_own W (octL m) (by unfold maxLen octL; simp))
  unfold octL at HO ⊢
  generalize partP (m : Int) 117 = a at *
  generalize partP (m : Int) 103 = b at *
  generalize partP (m : Int) 111 = c at *
  go_enter Tryz.func12, Tryz.ntmps12
  go_wp2_with fail
  refine (unhide P1 _).mono ?_
  rintro e w1 ⟨rfl, hw1⟩
  rw [hw1]
  clear hw1
  go_wp2_with fail
  refine (unhide P2 _).mono ?_
  rintro e w2 ⟨rfl, hw2⟩
  rw [hw2]
  clear hw2
  go_wp2_with fail
  refine (unhide P3 _).mono ?_
  rintro e w3 ⟨rfl, hw3⟩
  rw [hw3]
  clear hw3
  go_wp2_with fail
  go_ret
  exact ⟨_, rfl, unhide HO w, (Below.refl _ _).alloc (Nat.le_refl _) _⟩
/-- what Parse leaves -/
def PaR (w : World) (s : Bs) (e : Ending) (w' : World) : Prop :=
  ∃ v, e = .returned (.tuple #[v, .int .i64 (parseE s)]) ∧ w'.ownsRow w.heap.size 54 5 v (parseL s).length (cl (parseL s)) ∧ Below w.heap.size w w'
theorem paR_nix {w w' : World} {s : Bs} {n : Int} (h1 : parseL s = []) (h2 : parseE s = n) (hb : Below w.heap.size w w') : PaR w s (.returned (.tuple #[.slice none 0 0, .int .i64 n])) w' := by
  refine ⟨_, by rw [h2], ?_, hb⟩
  rw [h1]
  exact World.ownsRow_nil _ _ _ _
theorem paR_yes {w w' : World} {s : Bs} {l : List Ch} {v : Value} (h1 : parseL s = l) (h2 : parseE s = 0) (ho : w'.ownsRow w.heap.size 54 5 v l.length (cl l)) (hb : Below w.heap.size w w') : PaR w s (.returned (.tuple #[v, .int .i64 0])) w' := by
  subst h1
  exact ⟨_, by rw [h2], ho, hb⟩
theorem cl_one (l : List Ch) : ∀ u ∈ cl l, u.oneCell' = true := by
  intro u hu
  obtain ⟨c, _, hc⟩ := List.mem_flatMap.1 hu
  exact five_one c u hc
theorem parse_long {s : Bs} (h : 4096 < s.length) : parseL s = [] ∧ parseE s = 3 := by
  unfold parseL parseE; rw [if_pos h, if_pos h]; exact ⟨rfl, rfl⟩
theorem parse_none {s : Bs} (h : s.length ≤ 4096) (hn : parse s = none) : parseL s = [] ∧ parseE s = 5 := by
  unfold parseL parseE; rw [if_neg (by omega), if_neg (by omega), hn]; exact ⟨rfl, rfl⟩
theorem parse_some {s : Bs} {l : List Ch} (h : s.length ≤ 4096) (hn : parse s = some l) : parseL s = l ∧ parseE s = 0 := by
  unfold parseL parseE; rw [if_neg (by omega), if_neg (by omega), hn]; exact ⟨rfl, rfl⟩
set_option maxHeartbeats 2000000 in
set_option maxRecDepth 100000 in
theorem parse_any (s : ByteArray) (w : World) (hs : s.size ≤ 4611686018427387904) : Calls Tryz.prog 5 #[.string s] w (PaR w (bs s)) := by
  by_cases hlong : 4096 < (s.size : Int)
  · have hp := hide (parse_long (s := bs s) (by rw [bs_len]; omega))
    go_enter Tryz.func5, Tryz.ntmps5
    go_wp2_with fail
    go_ret2
    exact paR_nix (unhide hp).1 (unhide hp).2 (Below.refl _ _)
  · have hsz : s.size ≤ 4096 := by omega
    obtain ⟨i0, hi, hz0, hz1, hz2⟩ := info_parts Tryz.infoCh
    have HRD := hide (read_any s w hs)
    cases hrd : readP (bs s) with
    | some m =>
      rw [hrd] at HRD
      unfold readV at HRD
      have hp := hide (parse_some (s := bs s) (l := octL m) (by rw [bs_len]; omega) (by unfold parse; rw [hrd]))
      clear hrd
      go_enter Tryz.func5, Tryz.ntmps5
      go_wp2_with fail
      refine (unhide HRD).mono ?_
      rintro e w1 ⟨rfl, hb1⟩
      have HB1 := hide hb1
      clear hb1 HRD
      go_wp2_with fail
      refine (octalChanges_any m _).mono ?_
      rintro e w2 ⟨v, rfl, hO2, hb2⟩
      have HB2 : Hid (Below w.heap.size w w2) := (unhide HB1).trans (hb2.mono (unhide HB1).size)
      have HO2 : Hid (w2.ownsRow w.heap.size 54 5 v 3 (cl (octL m))) := own_base hO2 (unhide HB1).size
      obtain ⟨g, c, rfl⟩ := row_some hO2
      clear hb2 HB1 hO2
      go_wp2_with fail
      go_ret2
      exact paR_yes (unhide hp).1 (unhide hp).2 (unhide HO2) (unhide HB2)
    | none =>
      rw [hrd] at HRD
      unfold readV at HRD
      have hpp : Hid (parse (bs s) = clausesP (splitC (bs s))) := by unfold parse; rw [hrd]; rfl
      clear hrd
      go_enter Tryz.func5, Tryz.ntmps5
      go_wp2_with fail
      refine (unhide HRD).mono ?_
      rintro e w1 ⟨rfl, hb1⟩
      have HB1 := hide hb1
      clear hb1 HRD
      go_wp2_with fail
      refine (split_any s _ hsz).mono ?_
      rintro e w2 ⟨rfl, hw2⟩
      obtain ⟨n, hn⟩ : ∃ n, n = (pcs s).length := ⟨_, rfl⟩
      have hn1 := pcs_le s
      rw [← hn] at hn1 ⊢
      have hsz2 : w1.heap.size < w2.heap.size := by rw [hw2]; simp
      have HP : Hid (∀ i (h : i < (pcs s).length), w2.cell? ⟨w1.heap.size, i, none⟩ = some (.string (pcs s)[i])) := by
        intro i h
        rw [hw2, cell_of_row _ _ _ _ _ _ (heap_alloc_new w1 _)]
        simp [List.getElem?_eq_getElem h]
      have HB2 : Hid (Below w.heap.size w w2) := by rw [hw2]; exact (unhide HB1).alloc (unhide HB1).size _
      clear hw2 HB1
      have HN := hide hn
      clear hn
      go_wp2_with fail
      go_loopw [6, 25] (fun v i wr => ∃ (k : Nat) (l : List Ch) (av : Option Addr) (cv : Nat), v = .slice av l.length cv ∧ k ≤ n ∧ i = .int .i64 k ∧ l.length ≤ 8200 ∧ Hid (clausesP ((splitC (bs s)).take k) = some l) ∧ Hid (wr.ownsRow w2.heap.size 54 5 (.slice av l.length cv) l.length (cl l)) ∧ Hid (Below w2.heap.size w2 wr)) (fun _ i _ => n - (intOf i).toNat)
      case atStart => exact ⟨0, [], none, 0, rfl, Nat.zero_le _, rfl, by simp, rfl, World.ownsRow_nil _ _ _ _, Below.refl _ _⟩
      case round =>
        obtain ⟨k, l, av, cv, rfl, hk, rfl, hll, hit, hrow, hnx⟩ := hrel
        have hz := (unhide hnx).size
        by_cases hlt : k < n
        · have hlt' : (k : Int) < (n : Int) := by omega
          have hkp : k < (pcs s).length := by rw [← unhide HN]; exact hlt
          obtain ⟨hks, hkx⟩ := pcs_get s k hkp
          have hp := ((unhide hnx).cell (p := ⟨w1.heap.size, k, none⟩) (by simp; omega)).trans (unhide HP k hkp)
          have hxs := pcs_size s _ (List.getElem_mem hkp)
          obtain ⟨x, hx⟩ : ∃ x, x = (pcs s)[k] := ⟨_, rfl⟩
          rw [← hx] at hp hkx hxs
          have C := hide (clause_any x wr (by omega))
          clear hx
          have HNO : Hid (clauseP (bs x) = none → parseL (bs s) = [] ∧ parseE (bs s) = 5) := fun h => parse_none (by rw [bs_len]; omega) ((unhide hpp).trans (clausesP_take_no hks (by rw [hkx]; exact h)))
          have HYES : Hid (∀ r, clauseP (bs x) = some r → clausesP ((splitC (bs s)).take (k + 1)) = some (l ++ r)) := fun r h => clausesP_take_yes hks (unhide hit) (by rw [hkx]; exact h)
          have HLEN : Hid (∀ r, clausesP ((splitC (bs s)).take (k + 1)) = some r → r.length ≤ 8200) := fun r h => by
            have h1 := clausesP_len h
            have h2 := splitC_len (bs s)
            have h3 : (((splitC (bs s)).take (k + 1)).map (fun x => x.length + 1)).sum ≤ ((splitC (bs s)).map (fun x => x.length + 1)).sum := by
              conv => rhs; rw [← List.take_append_drop (k + 1) (splitC (bs s))]
              rw [List.map_append, List.sum_append]; omega
            rw [bs_len] at h2
            omega
          clear hkx hks hkp hxs hit
          go_wp2_with fail
          refine (unhide C).mono ?_
          rintro e w3 (⟨hno, ⟨a3, n3, c3, rfl⟩, hb3⟩ | ⟨r, v3, hyes, rfl, hO3, hb3⟩)
          · have hno2 := hide (unhide HNO hno)
            have HB3 : Hid (Below w.heap.size w w3) := (unhide HB2).trans (((unhide hnx).trans (hb3.mono hz)).mono (unhide HB2).size)
            clear hno hb3 C hrow hnx HNO HYES HLEN
            go_wp2_with fail
            go_ret2
            exact paR_nix (unhide hno2).1 (unhide hno2).2 (unhide HB3)
          · have hyes2 := hide (unhide HYES r hyes)
            have hlen2 := unhide HLEN _ (unhide hyes2)
            rw [List.length_append] at hlen2
            have HB3 : Hid (Below w2.heap.size w2 w3) := (unhide hnx).trans (hb3.mono hz)
            have hz3 := hb3.size
            have hr3 := hide (own_below (unhide hrow) hb3)
            have hrl : 1 ≤ r.length := by
              unfold clauseP at hyes
              split at hyes
              · cases hyes
              · rename_i st _
                split at hyes
                · rename_i hs; injection hyes with h; subst h
                  obtain ⟨ch, hc⟩ := Option.isSome_iff_exists.1 hs
                  simp [St.all, hc]
                · cases hyes
            obtain ⟨rn, hrn⟩ : ∃ n, r.length = n + 1 := ⟨r.length - 1, by omega⟩
            rw [hrn] at hO3
            obtain ⟨g3, c3, rfl⟩ := row_some hO3
            have hcells := hide (hO3.cells (g := g3) rfl)
            have hcl : Hid ((cl r).length = (rn + 1) * 5) := by rw [cl_length, hrn]; rfl
            rw [hrn] at hlen2
            have HRN := hide hrn
            clear hyes hb3 C hrow hnx HNO HYES HLEN hO3 hrl hrn
            obtain ⟨nl, hnl⟩ : ∃ n, n = l.length := ⟨_, rfl⟩
            rw [← hnl] at hll hlen2 hr3 ⊢
            have HNL := hide hnl
            clear hnl
            go_wp2_with (at_builtin; refine wpList_append_own _ rfl _ _ 23 rfl w2.heap.size 54 i0 _ 5 32 Tryz.underlying23 hi hz0 hz1 hz2 rfl (by decide) _ _ _ rfl (unhide hr3) ⟨g3, 0, none⟩ (rn + 1) c3 (cl r) rfl (unhide hcl) (unhide hcells) (cl_one _) (by unfold maxLen; omega) (by omega) (by omega) ?_; intro v' w4 hown4 hg4 hnil4)
            have hs2 := (unhide HB3).size
            have HB4 : Hid (Below w2.heap.size w2 w4) := (unhide HB3).grown hg4 (by omega) (fun j hj => ((unhide hr3).lt j hj).1)
            have hll2 : nl + (rn + 1) = (l ++ r).length := by rw [List.length_append, unhide HNL, unhide HRN]
            have hO4 := hown4
            rw [hll2, ← cl_app] at hO4
            obtain ⟨a4, c4, rfl⟩ := row_slice hO4
            have HO4 := hide hO4
            have hl8 : (l ++ r).length ≤ 8200 := by omega
            clear hown4 hg4 hnil4 hr3 HB3 hO4 hcells hcl HNL HRN hll2
            go_wp2_with fail
            go_roundw
            case rel => exact ⟨k + 1, l ++ r, a4, c4, rfl, by omega, by go_num, hl8, hyes2, HO4, HB4⟩
            case measure => simp [intOf]; omega
        · have hyes := hide (parse_some (s := bs s) (l := l) (by rw [bs_len]; omega) (by
            have h := unhide hit
            rw [List.take_of_length_le (by rw [← pcs_len, ← unhide HN]; omega)] at h
            exact (unhide hpp).trans h))
          have HB3 : Hid (Below w.heap.size w wr) := (unhide HB2).trans ((unhide hnx).mono (unhide HB2).size)
          have HO3 : Hid (wr.ownsRow w.heap.size 54 5 (.slice av l.length cv) l.length (cl l)) := own_base (unhide hrow) (unhide HB2).size
          clear hit hrow hnx
          go_wp2_with fail
          go_ret2
          exact paR_yes (unhide hyes).1 (unhide hyes).2 (unhide HO3) (unhide HB3)
end Go.Proofs.YtijknodbaddelaaGreatDoor.Mo
