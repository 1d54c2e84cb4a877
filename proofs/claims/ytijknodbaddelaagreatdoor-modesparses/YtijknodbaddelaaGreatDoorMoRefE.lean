/- What the document's Parse answers. -/
import Derived.Test.YtijknodbaddelaaGreatDoorMoRefD
namespace Go.Proofs.YtijknodbaddelaaGreatDoor.Mo
open Go.RowKit Go.Shelf

/-- how far the document's Parse has come: at i, the clauses are l -/
def Far (s : Bs) (a i : Nat) (l : List Ch) : Prop := Clz s a i l ∨ (i = s.length + 1 ∧ clausesP (splitC s) = some l)
theorem Far.len {s : Bs} {a i : Nat} {l : List Ch} (h : Far s a i l) : l.length ≤ s.length + 1 := by
  rcases h with h | h
  · exact h.len
  · exact all_len h.2
theorem Far.clz {s : Bs} {a i : Nat} {l : List Ch} (h : Far s a i l) (hi : i ≤ s.length) : Clz s a i l := by
  rcases h with h | h
  · exact h
  · omega
theorem Far.go {s : Bs} {a i : Nat} {l r : List Ch} (h : Clz s a i l) (hb : s[i]? = some 44 ∨ i = s.length) (hy : clauseP ((s.drop a).take (i - a)) = some r) : Far s (i + 1) (i + 1) (l ++ r) := by
  rcases hb with hb | rfl
  · exact .inl (h.comma hb hy)
  · exact .inr ⟨rfl, h.last hy⟩

set_option maxHeartbeats 2000000 in
set_option maxRecDepth 100000 in
theorem rparse_any (s : ByteArray) (w : World) (hs : s.size ≤ 4611686018427387904) : Calls Tryz.prog 6 #[.string s] w (PaR w (bs s)) := by
  by_cases hlong : 4096 < (s.size : Int)
  · have hp := hide (parse_long (s := bs s) (by rw [bs_len]; omega))
    go_enter Tryz.func6, Tryz.ntmps6
    go_wp2_with fail
    go_ret2
    exact paR_nix (unhide hp).1 (unhide hp).2 (Below.refl _ _)
  · have hsz : s.size ≤ 4096 := by omega
    obtain ⟨i0, hi, hz0, hz1, hz2⟩ := info_parts Tryz.infoCh
    have HRD := hide (rread_any s w hs)
    cases hrd : readP (bs s) with
    | some m =>
      rw [hrd] at HRD
      unfold readV at HRD
      have hp := hide (parse_some (s := bs s) (l := octL m) (by rw [bs_len]; omega) (by unfold parse; rw [hrd]))
      have hm := readP_le hrd
      have HO := hide (fun W => lit_own W (octL m) (by unfold maxLen octL; simp))
      rw [oct_parts m hm] at HO hp
      clear hrd
      go_enter Tryz.func6, Tryz.ntmps6
      go_wp2_with fail
      refine (unhide HRD).mono ?_
      rintro e w1 ⟨rfl, rfl⟩
      clear HRD
      go_wp2_with fail
      go_ret2
      exact paR_yes (unhide hp).1 (unhide hp).2 (unhide HO _) ((Below.refl _ _).alloc (Nat.le_refl _) _)
    | none =>
      rw [hrd] at HRD
      unfold readV at HRD
      have hpp : Hid (parse (bs s) = clausesP (splitC (bs s))) := by unfold parse; rw [hrd]; rfl
      clear hrd
      go_enter Tryz.func6, Tryz.ntmps6
      go_wp2_with fail
      refine (unhide HRD).mono ?_
      rintro e w1 ⟨rfl, hw1⟩
      rw [hw1]
      clear hw1 HRD w1
      go_wp2_with fail
      go_loopw [6, 7, 8, 9, 10] (fun v va vi _ _ wr => ∃ (a k : Nat) (l : List Ch) (av : Option Addr) (cv : Nat), v = .slice av l.length cv ∧ va = .int .i64 a ∧ vi = .int .i64 k ∧ a ≤ k ∧ k ≤ s.size + 1 ∧ l.length ≤ 4097 ∧ Hid (Far (bs s) a k l) ∧ Hid (wr.ownsRow w.heap.size 54 5 (.slice av l.length cv) l.length (cl l)) ∧ Hid (Below w.heap.size w wr)) (fun _ _ vi _ _ _ => s.size + 1 - (intOf vi).toNat)
      case atStart => exact ⟨0, 0, [], none, 0, rfl, rfl, rfl, Nat.le_refl _, by omega, by simp, .inl (Clz.start _), World.ownsRow_nil _ _ _ _, Below.refl _ _⟩
      case round =>
        obtain ⟨a, k, l, av, cv, rfl, rfl, rfl, hak, hk, hll, hF, hrow, hnx⟩ := hrel
        have hz := (unhide hnx).size
        by_cases hle : k ≤ s.size
        · have hle' : (k : Int) ≤ (s.size : Int) := by omega
          have hZ := hide ((unhide hF).clz (by rw [bs_len]; exact hle))
          by_cases hgo : ∃ h : k < s.size, s[k] ≠ 44
          · obtain ⟨hlt, h44⟩ := hgo
            have hlt' : (k : Int) < (s.size : Int) := by omega
            have hn := hide ((unhide hZ).miss (bs_at s k hlt) h44)
            have h44' : ((s[k].toNat : Int) != 44) = true := by
              simp only [bne_iff_ne, ne_eq]
              intro e
              exact h44 (UInt8.toNat_inj.1 (by simp; omega))
            clear hF hZ h44
            go_wp2_with fail
            go_roundw
            case rel => exact ⟨a, k + 1, l, av, cv, rfl, rfl, by go_num, by omega, by omega, hll, .inl (unhide hn), hrow, hnx⟩
            case measure => simp [intOf]; omega
          · have hend : Hid ((bs s)[k]? = some 44 ∨ k = (bs s).length) := by
              by_cases hlt : k < s.size
              · refine .inl ?_
                rw [bs_at s k hlt]
                congr 1
                by_cases h : s[k] = 44
                · exact h
                · exact absurd ⟨hlt, h⟩ hgo
              · exact .inr (by rw [bs_len]; omega)
            have hcond : (¬ (k : Int) < (s.size : Int)) ∨ ∃ h : k < s.size, (k : Int) < (s.size : Int) ∧ ((s[k].toNat : Int) != 44) = false := by
              by_cases hlt : k < s.size
              · refine .inr ⟨hlt, by omega, ?_⟩
                have : s[k] = 44 := by
                  by_cases h : s[k] = 44
                  · exact h
                  · exact absurd ⟨hlt, h⟩ hgo
                rw [this]; rfl
              · exact .inl (by omega)
            clear hgo
            have hxb : bs (s.extract a k) = ((bs s).drop a).take (k - a) := bs_ext s a k
            have hxs : (s.extract a k).size ≤ 4096 := by
              have := congrArg List.length hxb
              rw [bs_len, List.length_take, List.length_drop, bs_len] at this
              omega
            have C := hide (rclause_any (s.extract a k) wr hxs)
            have HNO : Hid (clauseP (bs (s.extract a k)) = none → parseL (bs s) = [] ∧ parseE (bs s) = 5) := fun h => by
              rw [hxb] at h
              exact parse_none (by rw [bs_len]; omega) ((unhide hpp).trans ((unhide hZ).no (unhide hend) h))
            have HYES : Hid (∀ r, clauseP (bs (s.extract a k)) = some r → Far (bs s) (k + 1) (k + 1) (l ++ r)) := fun r h => by
              rw [hxb] at h
              exact Far.go (unhide hZ) (unhide hend) h
            clear hF hZ hend hxb hxs
            have hak' : (a : Int) ≤ (k : Int) := by omega
            have HLEN : Hid (∀ r, Far (bs s) (k + 1) (k + 1) r → r.length ≤ 4097) := fun r h => by
              have := h.len
              rw [bs_len] at this
              omega
            rcases hcond with hc | ⟨hlt, hc1, hc2⟩
            all_goals
              go_wp2_with fail
              refine (unhide C).mono ?_
              rintro e w3 (⟨hno, ⟨a3, n3, c3, rfl⟩, hb3⟩ | ⟨r, v3, hyes, rfl, hO3, hb3⟩)
              · have hno2 := hide (unhide HNO hno)
                have HB3 : Hid (Below w.heap.size w w3) := (unhide hnx).trans (hb3.mono hz)
                clear hno hb3 C hrow hnx HNO HYES HLEN
                go_wp2_with fail
                go_ret2
                exact paR_nix (unhide hno2).1 (unhide hno2).2 (unhide HB3)
              · have hyes2 := hide (unhide HYES r hyes)
                have hlen2 := unhide HLEN _ (unhide hyes2)
                rw [List.length_append] at hlen2
                have HB3 : Hid (Below w.heap.size w w3) := (unhide hnx).trans (hb3.mono hz)
                have hz3 := hb3.size
                have hr3 := hide (own_below (unhide hrow) hb3)
                have hrl := clauseP_pos hyes
                obtain ⟨rn, hrn⟩ : ∃ n, r.length = n + 1 := ⟨r.length - 1, by omega⟩
                rw [hrn] at hO3
                obtain ⟨g3, c3, rfl⟩ := row_some hO3
                have hcells := hide (hO3.cells (g := g3) rfl)
                have hcl : Hid ((cl r).length = (rn + 1) * 5) := by rw [cl_length, hrn]; rfl
                rw [hrn] at hlen2
                have HRN := hide hrn
                clear hyes hb3 C hrow hnx HNO HYES HLEN hO3 hrl hrn
                obtain ⟨nl, hnl⟩ : ∃ n, n = l.length := ⟨_, rfl⟩
                rw [← hnl] at hll hlen2 hr3 ⊢
                have HNL := hide hnl
                clear hnl
                go_wp2_with (at_builtin; refine wpList_append_own _ rfl _ _ 23 rfl w.heap.size 54 i0 _ 5 32 Tryz.underlying23 hi hz0 hz1 hz2 rfl (by decide) _ _ _ rfl (unhide hr3) ⟨g3, 0, none⟩ (rn + 1) c3 (cl r) rfl (unhide hcl) (unhide hcells) (cl_one _) (by unfold maxLen; omega) (by omega) (by omega) ?_; intro v' w4 hown4 hg4 hnil4)
                have hs2 := (unhide HB3).size
                have HB4 : Hid (Below w.heap.size w w4) := (unhide HB3).grown hg4 (by omega) (fun j hj => ((unhide hr3).lt j hj).1)
                have hll2 : nl + (rn + 1) = (l ++ r).length := by rw [List.length_append, unhide HNL, unhide HRN]
                have hO4 := hown4
                rw [hll2, ← cl_app] at hO4
                obtain ⟨a4, c4, rfl⟩ := row_slice hO4
                have HO4 := hide hO4
                have hl8 : (l ++ r).length ≤ 4097 := by omega
                clear hown4 hg4 hnil4 hr3 HB3 hO4 hcells hcl HNL HRN hll2
                go_wp2_with fail
                go_roundw
                case rel => exact ⟨k + 1, k + 1, l ++ r, a4, c4, rfl, by go_num, by go_num, Nat.le_refl _, by omega, hl8, hyes2, HO4, HB4⟩
                case measure => simp [intOf]; omega
        · have hle' : ¬ (k : Int) ≤ (s.size : Int) := by omega
          have hyes := hide (parse_some (s := bs s) (l := l) (by rw [bs_len]; omega) ((unhide hpp).trans (by
            rcases unhide hF with h | h
            · have := h.bs; rw [bs_len] at this; omega
            · exact h.2)))
          clear hF
          go_wp2_with fail
          go_ret2
          exact paR_yes (unhide hyes).1 (unhide hyes).2 (unhide hrow) (unhide hnx)
end Go.Proofs.YtijknodbaddelaaGreatDoor.Mo
