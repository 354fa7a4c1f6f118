import Derived.Test.YtmpdalcdkibgpaaR6
namespace Go.Proofs.Ytmpdalcdkibgpaa
open Go.RowKit Go.Sort

theorem sum12 (A : Option Addr) (n c : Nat) (xs : List Int) (w : World) (B : Nat) (h : Ints w B A n c xs) (m : Nat) (hx : Hid (IsP xs m)) :
    Calls Try.prog 64 #[.slice A n c, .int .i64 12] w fun e w' => e = .returned (.int .i64 m) ∧ w = w' := by
  have s : Small 20 xs := fun j => by have := hx.out.small j; omega
  have hn := h.len; have l12 := hx.out.len12
  exact (sum_any A n c xs 12 w B h (hide s) (by omega)).mono fun e w' ⟨he, hw⟩ => ⟨by rw [he, pre_min, isP_length hx.out l12], hw⟩
theorem allF_most {f n most : Nat} (h : n ≤ most) : allF f n most = allF f n n := by
  cases f with
  | zero => rfl
  | succ f => rw [allF, allF, Nat.min_eq_left h, Nat.min_self]
theorem all12 (m : Nat) (w : World) (hm : m ≤ 12) :
    Calls Try.prog 91 #[.int .i64 m, .int .i64 12] w fun e w' => ∃ A k c, e = .returned (.slice A k c) ∧ Rows_ w' w'.heap.size A k c (allN m) ∧ Below w.heap.size w w' :=
  (All_any m m 12 m 12 w (Nat.le_refl _) hm (Nat.le_refl _) rfl rfl).mono fun e w' ⟨A, k, c, he, hr, hb⟩ => ⟨A, k, c, he, by have := hr.rows; rwa [allF_most hm] at this, hb⟩

def p0 (xs b : List Int) : Bool := unevR xs b && !decide (xs = b)
def nbT (xs b : List Int) (m t : Nat) : Bool := p0 xs b && ((allN m).take t).all fun c => !condC xs b c
def rBk (xs : List Int) (m k : Nat) : List (List Int) := ((allN m).take k).filter fun b => nb xs b (allN m)
theorem nbT_succ {xs b : List Int} {m t : Nat} (h : t < (allN m).length) : nbT xs b m (t + 1) = (nbT xs b m t && !condC xs b (row (allN m) t)) := by
  rw [nbT, nbT, take_row _ _ h, List.all_append]
  simp [Bool.and_assoc]
theorem nbT_all (xs b : List Int) (m : Nat) : nbT xs b m (allN m).length = nb xs b (allN m) := by
  rw [nbT, List.take_length]; rfl
theorem rBk_succ {xs : List Int} {m k : Nat} (h : k < (allN m).length) : rBk xs m (k + 1) = rBk xs m k ++ if nb xs (row (allN m) k) (allN m) = true then [row (allN m) k] else [] := by
  rw [rBk, rBk, take_row _ _ h, List.filter_append]
  congr 1
  by_cases hb : nb xs (row (allN m) k) (allN m) = true <;> simp [hb]

set_option maxRecDepth 100000 in
set_option maxHeartbeats 4000000 in
theorem RBelow_any (A : Option Addr) (n c : Nat) (xs : List Int) (w : World) (h : Ints w w.heap.size A n c xs) (m : Nat) (hx : Hid (IsP xs m)) :
    Calls Try.prog 55 #[.slice A n c] w fun e w' => ∃ A1 n1 c1, e = .returned (.slice A1 n1 c1) ∧ Rows_ w' w'.heap.size A1 n1 c1 (rB xs m) ∧ Below w.heap.size w w' := by
  have hm12 := hx.out.le; have hm1 := hx.out.pos
  have Ia := hide h; clear h
  go_enter Try.func55, Try.ntmps55
  go_wp2_with fail
  refine (sum12 _ _ _ _ _ _ (unhide Ia) m hx).mono ?_
  rintro e w0 ⟨rfl, rfl⟩
  go_wp2_with fail
  refine (all12 m _ hm12).mono ?_
  rintro e w1 ⟨A2, K, c2, rfl, hr, hb1⟩
  have HB1 := hide hb1
  have I1 := hide (((unhide Ia).below hb1).more hb1.size)
  have hK := hide hr.len
  have hmK := hr.most; have hcK := hr.cap
  have HR := hide hr
  have hK100 : K ≤ 100 := by have := hK.out; have h2 := allF_small (n := m) (m := m) (by omega) (by omega); rw [← allN] at h2; omega
  clear hb1 hr Ia
  go_wp2_with fail
  go_loopw [15, 4] (fun i v wr => ∃ (k : Nat) (A1 : Option Addr) (n1 c1 : Nat), k ≤ K ∧ i = .int .i64 k ∧ v = .slice A1 n1 c1 ∧ OwnedR wr w1.heap.size (.slice A1 n1 c1) (rBk xs m k) ∧ Below w1.heap.size w1 wr) (fun i _ _ => K - (intOf i).toNat)
  case atStart => exact ⟨0, none, 0, 0, Nat.zero_le _, rfl, rfl, ownedR_nil _ _, Below.refl _ _⟩
  case round =>
    obtain ⟨k, A1, n1, c1, hk, rfl, rfl, ho, hb⟩ := hrel
    have HO := hide ho; have HB := hide hb
    by_cases hlt : k < K
    · have Ja := hide (((unhide I1).below hb).more hb.size)
      have Jl := hide (((unhide HR).below hb))
      clear ho hb
      obtain ⟨b5, o5, rfl⟩ := (unhide Jl).addr (by omega)
      obtain ⟨Ab, nb', cb, hcell, hib⟩ := (unhide Jl).get hlt
      have hbp := hide (allN_isP hm1 hm12 (row_in (l := allN m) (k := k) (by rw [hK.out]; exact hlt)))
      have hbl := hide (fun b off (e : Ab = some ⟨b, off, none⟩) => (by subst e; exact hib.block_lt (by have := hib.len; have := hbp.out.len; omega) : b < w1.heap.size))
      have Jb := hide (hib.more (unhide HB).size); clear hib
      obtain ⟨wo, hwo⟩ : ∃ wo : World, wo = wr := ⟨_, rfl⟩
      subst hwo
      rcases hu : unevR xs (row (allN m) k)
      · have HU := hide hu
        have HP := hide (show p0 xs (row (allN m) k) = false from by rw [p0, hu]; rfl)
        clear hu
        go_wp2_with fail
        refine (unevP _ _ _ _ _ _ _ _ _ (unhide Ja) (unhide Jb) m hx hbp false HU).mono ?_
        rintro e w5 ⟨rfl, b5'⟩
        have HB5 := hide ((unhide HB).trans (b5'.mono (unhide HB).size))
        have HO5 := hide ((unhide HO).below b5')
        clear b5' HU
        go_wp2_with fail
        go_loopw [30, 7] (fun i p wr => ∃ t : Nat, t ≤ K ∧ i = .int .i64 t ∧ p = .bool (nbT xs (row (allN m) k) m t) ∧ OwnedR wr w1.heap.size (.slice A1 n1 c1) (rBk xs m k) ∧ Below w1.heap.size w1 wr) (fun i _ _ => K - (intOf i).toNat)
        case atStart => exact ⟨0, Nat.zero_le _, rfl, by rw [nbT, HP.out]; simp, unhide HO5, unhide HB5⟩
        case round =>
          obtain ⟨t, ht, rfl, rfl, hot, hbt⟩ := hrel
          have HOt := hide hot; have HBt := hide hbt; clear hot hbt
          have La := hide (((unhide I1).below (unhide HBt)).more (unhide HBt).size)
          obtain ⟨A9, n9, c9, hc9, i9⟩ := ((unhide HR).below (unhide HBt)).get hlt
          obtain ⟨A8, n8, c8, hc8, i8⟩ := (unhide Jl).get hlt
          have esame : A9 = Ab ∧ n9 = nb' ∧ c9 = cb := by
            obtain ⟨_, _, _, h1, _⟩ := (unhide HR).get hlt
            have e1 := ((unhide HBt).cell (p := ⟨b5, o5 + k, none⟩) (by obtain ⟨_, _, _, _, _, e, hB, _⟩ := (unhide HR).at_ k hlt; cases e; exact hB))
            have e2 := ((unhide HB).cell (p := ⟨b5, o5 + k, none⟩) (by obtain ⟨_, _, _, _, _, e, hB, _⟩ := (unhide HR).at_ k hlt; cases e; exact hB))
            rw [e1, ← e2, hcell] at hc9
            simp only [Option.some.injEq, Value.slice.injEq] at hc9
            exact ⟨hc9.1.symm, hc9.2.1.symm, hc9.2.2.symm⟩
          obtain ⟨rfl, rfl, rfl⟩ := esame
          have Lb := hide (i9.more (unhide HBt).size)
          clear hc9 hc8 i9 i8
          by_cases htK : t < K
          · obtain ⟨Ac, nc, cc, hcellc, hic⟩ := ((unhide HR).below (unhide HBt)).get htK
            have hcp := hide (allN_isP hm1 hm12 (row_in (l := allN m) (k := t) (by rw [hK.out]; exact htK)))
            have Lc := hide (hic.more (unhide HBt).size); clear hic
            rcases s1 : decide (xs = row (allN m) t)
            · rcases s2 : decide (row (allN m) k = row (allN m) t)
              · rcases u1 : unevR xs (row (allN m) t)
                · have S1 := hide s1; have S2 := hide s2; have U1 := hide u1; clear s1 s2 u1
                  have HC := hide (show condC xs (row (allN m) k) (row (allN m) t) = false from by rw [condC, S1.out, S2.out, U1.out]; rfl)
                  have HN := hide (show nbT xs (row (allN m) k) m (t + 1) = nbT xs (row (allN m) k) m t from by rw [nbT_succ (by rw [hK.out]; exact htK), HC.out]; simp)
                  go_wp2_with fail
                  refine (same_is _ _ _ _ _ _ _ _ _ _ _ (unhide La) (unhide Lc) false (hide S1.out)).mono ?_
                  rintro e w6 ⟨rfl, b6'⟩
                  replace HBt := hide ((unhide HBt).trans (b6'.mono (unhide HBt).size))
                  replace HOt := hide ((unhide HOt).below b6')
                  replace La := hide (((unhide La).below b6').more b6'.size)
                  replace Lb := hide (((unhide Lb).below b6').more b6'.size)
                  replace Lc := hide (((unhide Lc).below b6').more b6'.size)
                  clear b6'
                  go_wp2_with fail
                  refine (same_is _ _ _ _ _ _ _ _ _ _ _ (unhide Lb) (unhide Lc) false (hide S2.out)).mono ?_
                  rintro e w7 ⟨rfl, b7'⟩
                  replace HBt := hide ((unhide HBt).trans (b7'.mono (unhide HBt).size))
                  replace HOt := hide ((unhide HOt).below b7')
                  replace La := hide (((unhide La).below b7').more b7'.size)
                  replace Lb := hide (((unhide Lb).below b7').more b7'.size)
                  replace Lc := hide (((unhide Lc).below b7').more b7'.size)
                  clear b7'
                  go_wp2_with fail
                  refine (unevP _ _ _ _ _ _ _ _ _ (unhide La) (unhide Lc) m hx hcp false (hide U1.out)).mono ?_
                  rintro e w8 ⟨rfl, b8'⟩
                  replace HBt := hide ((unhide HBt).trans (b8'.mono (unhide HBt).size))
                  replace HOt := hide ((unhide HOt).below b8')
                  replace La := hide (((unhide La).below b8').more b8'.size)
                  replace Lb := hide (((unhide Lb).below b8').more b8'.size)
                  replace Lc := hide (((unhide Lc).below b8').more b8'.size)
                  clear b8'
                  go_wp2_with fail
                  go_roundw
                  case rel => exact ⟨t + 1, by omega, by go_num, by rw [HN.out], unhide HOt, unhide HBt⟩
                  case measure => simp [intOf]; omega
                · rcases u2 : unevR (row (allN m) t) (row (allN m) k)
                  · have S1 := hide s1; have S2 := hide s2; have U1 := hide u1; have U2 := hide u2; clear s1 s2 u1 u2
                    have HC := hide (show condC xs (row (allN m) k) (row (allN m) t) = false from by rw [condC, S1.out, S2.out, U1.out, U2.out]; rfl)
                    have HN := hide (show nbT xs (row (allN m) k) m (t + 1) = nbT xs (row (allN m) k) m t from by rw [nbT_succ (by rw [hK.out]; exact htK), HC.out]; simp)
                    go_wp2_with fail
                    refine (same_is _ _ _ _ _ _ _ _ _ _ _ (unhide La) (unhide Lc) false (hide S1.out)).mono ?_
                    rintro e w6 ⟨rfl, b6'⟩
                    replace HBt := hide ((unhide HBt).trans (b6'.mono (unhide HBt).size))
                    replace HOt := hide ((unhide HOt).below b6')
                    replace La := hide (((unhide La).below b6').more b6'.size)
                    replace Lb := hide (((unhide Lb).below b6').more b6'.size)
                    replace Lc := hide (((unhide Lc).below b6').more b6'.size)
                    clear b6'
                    go_wp2_with fail
                    refine (same_is _ _ _ _ _ _ _ _ _ _ _ (unhide Lb) (unhide Lc) false (hide S2.out)).mono ?_
                    rintro e w7 ⟨rfl, b7'⟩
                    replace HBt := hide ((unhide HBt).trans (b7'.mono (unhide HBt).size))
                    replace HOt := hide ((unhide HOt).below b7')
                    replace La := hide (((unhide La).below b7').more b7'.size)
                    replace Lb := hide (((unhide Lb).below b7').more b7'.size)
                    replace Lc := hide (((unhide Lc).below b7').more b7'.size)
                    clear b7'
                    go_wp2_with fail
                    refine (unevP _ _ _ _ _ _ _ _ _ (unhide La) (unhide Lc) m hx hcp true (hide U1.out)).mono ?_
                    rintro e w8 ⟨rfl, b8'⟩
                    replace HBt := hide ((unhide HBt).trans (b8'.mono (unhide HBt).size))
                    replace HOt := hide ((unhide HOt).below b8')
                    replace La := hide (((unhide La).below b8').more b8'.size)
                    replace Lb := hide (((unhide Lb).below b8').more b8'.size)
                    replace Lc := hide (((unhide Lc).below b8').more b8'.size)
                    clear b8'
                    go_wp2_with fail
                    refine (unevP _ _ _ _ _ _ _ _ _ (unhide Lc) (unhide Lb) m hcp hbp false (hide U2.out)).mono ?_
                    rintro e w9 ⟨rfl, b9'⟩
                    replace HBt := hide ((unhide HBt).trans (b9'.mono (unhide HBt).size))
                    replace HOt := hide ((unhide HOt).below b9')
                    replace La := hide (((unhide La).below b9').more b9'.size)
                    replace Lb := hide (((unhide Lb).below b9').more b9'.size)
                    replace Lc := hide (((unhide Lc).below b9').more b9'.size)
                    clear b9'
                    go_wp2_with fail
                    go_roundw
                    case rel => exact ⟨t + 1, by omega, by go_num, by rw [HN.out], unhide HOt, unhide HBt⟩
                    case measure => simp [intOf]; omega
                  · have S1 := hide s1; have S2 := hide s2; have U1 := hide u1; have U2 := hide u2; clear s1 s2 u1 u2
                    have HC := hide (show condC xs (row (allN m) k) (row (allN m) t) = true from by rw [condC, S1.out, S2.out, U1.out, U2.out]; rfl)
                    have HN := hide (show nbT xs (row (allN m) k) m (t + 1) = false from by rw [nbT_succ (by rw [hK.out]; exact htK), HC.out]; simp)
                    go_wp2_with fail
                    refine (same_is _ _ _ _ _ _ _ _ _ _ _ (unhide La) (unhide Lc) false (hide S1.out)).mono ?_
                    rintro e w6 ⟨rfl, b6'⟩
                    replace HBt := hide ((unhide HBt).trans (b6'.mono (unhide HBt).size))
                    replace HOt := hide ((unhide HOt).below b6')
                    replace La := hide (((unhide La).below b6').more b6'.size)
                    replace Lb := hide (((unhide Lb).below b6').more b6'.size)
                    replace Lc := hide (((unhide Lc).below b6').more b6'.size)
                    clear b6'
                    go_wp2_with fail
                    refine (same_is _ _ _ _ _ _ _ _ _ _ _ (unhide Lb) (unhide Lc) false (hide S2.out)).mono ?_
                    rintro e w7 ⟨rfl, b7'⟩
                    replace HBt := hide ((unhide HBt).trans (b7'.mono (unhide HBt).size))
                    replace HOt := hide ((unhide HOt).below b7')
                    replace La := hide (((unhide La).below b7').more b7'.size)
                    replace Lb := hide (((unhide Lb).below b7').more b7'.size)
                    replace Lc := hide (((unhide Lc).below b7').more b7'.size)
                    clear b7'
                    go_wp2_with fail
                    refine (unevP _ _ _ _ _ _ _ _ _ (unhide La) (unhide Lc) m hx hcp true (hide U1.out)).mono ?_
                    rintro e w8 ⟨rfl, b8'⟩
                    replace HBt := hide ((unhide HBt).trans (b8'.mono (unhide HBt).size))
                    replace HOt := hide ((unhide HOt).below b8')
                    replace La := hide (((unhide La).below b8').more b8'.size)
                    replace Lb := hide (((unhide Lb).below b8').more b8'.size)
                    replace Lc := hide (((unhide Lc).below b8').more b8'.size)
                    clear b8'
                    go_wp2_with fail
                    refine (unevP _ _ _ _ _ _ _ _ _ (unhide Lc) (unhide Lb) m hcp hbp true (hide U2.out)).mono ?_
                    rintro e w9 ⟨rfl, b9'⟩
                    replace HBt := hide ((unhide HBt).trans (b9'.mono (unhide HBt).size))
                    replace HOt := hide ((unhide HOt).below b9')
                    replace La := hide (((unhide La).below b9').more b9'.size)
                    replace Lb := hide (((unhide Lb).below b9').more b9'.size)
                    replace Lc := hide (((unhide Lc).below b9').more b9'.size)
                    clear b9'
                    go_wp2_with fail
                    go_roundw
                    case rel => exact ⟨t + 1, by omega, by go_num, by rw [HN.out], unhide HOt, unhide HBt⟩
                    case measure => simp [intOf]; omega
              · have S1 := hide s1; have S2 := hide s2; clear s1 s2
                have HC := hide (show condC xs (row (allN m) k) (row (allN m) t) = false from by rw [condC, S1.out, S2.out]; rfl)
                have HN := hide (show nbT xs (row (allN m) k) m (t + 1) = nbT xs (row (allN m) k) m t from by rw [nbT_succ (by rw [hK.out]; exact htK), HC.out]; simp)
                go_wp2_with fail
                refine (same_is _ _ _ _ _ _ _ _ _ _ _ (unhide La) (unhide Lc) false (hide S1.out)).mono ?_
                rintro e w6 ⟨rfl, b6'⟩
                replace HBt := hide ((unhide HBt).trans (b6'.mono (unhide HBt).size))
                replace HOt := hide ((unhide HOt).below b6')
                replace La := hide (((unhide La).below b6').more b6'.size)
                replace Lb := hide (((unhide Lb).below b6').more b6'.size)
                replace Lc := hide (((unhide Lc).below b6').more b6'.size)
                clear b6'
                go_wp2_with fail
                refine (same_is _ _ _ _ _ _ _ _ _ _ _ (unhide Lb) (unhide Lc) true (hide S2.out)).mono ?_
                rintro e w7 ⟨rfl, b7'⟩
                replace HBt := hide ((unhide HBt).trans (b7'.mono (unhide HBt).size))
                replace HOt := hide ((unhide HOt).below b7')
                replace La := hide (((unhide La).below b7').more b7'.size)
                replace Lb := hide (((unhide Lb).below b7').more b7'.size)
                replace Lc := hide (((unhide Lc).below b7').more b7'.size)
                clear b7'
                go_wp2_with fail
                go_roundw
                case rel => exact ⟨t + 1, by omega, by go_num, by rw [HN.out], unhide HOt, unhide HBt⟩
                case measure => simp [intOf]; omega
            · have S1 := hide s1; clear s1
              have HC := hide (show condC xs (row (allN m) k) (row (allN m) t) = false from by rw [condC, S1.out]; rfl)
              have HN := hide (show nbT xs (row (allN m) k) m (t + 1) = nbT xs (row (allN m) k) m t from by rw [nbT_succ (by rw [hK.out]; exact htK), HC.out]; simp)
              go_wp2_with fail
              refine (same_is _ _ _ _ _ _ _ _ _ _ _ (unhide La) (unhide Lc) true (hide S1.out)).mono ?_
              rintro e w6 ⟨rfl, b6'⟩
              replace HBt := hide ((unhide HBt).trans (b6'.mono (unhide HBt).size))
              replace HOt := hide ((unhide HOt).below b6')
              replace La := hide (((unhide La).below b6').more b6'.size)
              replace Lb := hide (((unhide Lb).below b6').more b6'.size)
              replace Lc := hide (((unhide Lc).below b6').more b6'.size)
              clear b6'
              go_wp2_with fail
              go_roundw
              case rel => exact ⟨t + 1, by omega, by go_num, by rw [HN.out], unhide HOt, unhide HBt⟩
              case measure => simp [intOf]; omega
          · obtain rfl : t = K := by omega
            have hall := nbT_all xs (row (allN m) k) m
            rw [hK.out] at hall
            rw [hall]
            have hsucc := rBk_succ (xs := xs) (m := m) (k := k) (by rw [hK.out]; exact hlt)
            clear hall
            rcases hq : nb xs (row (allN m) k) (allN m)
            · rw [hq] at hsucc
              have HS := hide hsucc; clear hsucc hq
              go_wp2_with fail
              go_roundw
              case rel => exact ⟨k + 1, A1, n1, c1, by omega, by go_num, rfl, by rw [HS.out]; simpa using unhide HOt, unhide HBt⟩
              case measure => simp [intOf]; omega
            · rw [hq, if_pos rfl] at hsucc
              have HS := hide hsucc; clear hsucc hq
              have hlen := hide (show (rBk xs m k).length ≤ 1000000 from by have h1 := List.length_filter_le (fun b => nb xs b (allN m)) ((allN m).take k); have h2 := List.length_take_le k (allN m); rw [rBk]; omega)
              go_wp2_with (at_builtin
                           refine wpList_appR (by rfl) (.tmp 56) (.tmp 58) (by rfl) (by rfl) (by rfl) (unhide HOt) (unhide Lb) (fun b off e => ⟨fun e2 => by have h1 := (unhide hbl) b off e; have h2 := ((unhide HOt).lt b e2.symm).1; omega, by have h1 := (unhide hbl) b off e; have h2 := (unhide HBt).size; omega⟩) (unhide hlen) (unhide HBt).size ?_
                           intro v3 w3 ho3 hb3
                           obtain ⟨A3, c3, e3, _⟩ := ho3.rows
                           have HO3 := hide ho3; have E3 := hide e3; have HB3 := hide ((unhide HBt).trans hb3)
                           clear ho3 hb3 e3)
              go_roundw
              case rel => exact ⟨k + 1, A3, _, c3, by omega, by go_num, E3.out, by rw [HS.out, ← E3.out]; exact unhide HO3, unhide HB3⟩
              case measure => simp [intOf]; omega
      · have HU := hide hu
        rcases hs : decide (xs = row (allN m) k)
        · have HS := hide hs
          have HP := hide (show p0 xs (row (allN m) k) = true from by rw [p0, hu, hs]; rfl)
          clear hu hs
          go_wp2_with fail
          refine (unevP _ _ _ _ _ _ _ _ _ (unhide Ja) (unhide Jb) m hx hbp true HU).mono ?_
          rintro e w4 ⟨rfl, b4'⟩
          have HB4 := hide ((unhide HB).trans (b4'.mono (unhide HB).size))
          have HO4 := hide ((unhide HO).below b4')
          have Ka := hide (((unhide Ja).below b4').more b4'.size); have Kb := hide (((unhide Jb).below b4').more b4'.size)
          clear b4' HU
          go_wp2_with fail
          refine (same_is _ _ _ _ _ _ _ _ _ _ _ (unhide Ka) (unhide Kb) _ HS).mono ?_
          rintro e w5 ⟨rfl, b5'⟩
          have HB5 := hide ((unhide HB4).trans (b5'.mono (unhide HB4).size))
          have HO5 := hide ((unhide HO4).below b5')
          clear b5' HS Ka Kb HO4 HB4
          go_wp2_with fail
          go_loopw [30, 7] (fun i p wr => ∃ t : Nat, t ≤ K ∧ i = .int .i64 t ∧ p = .bool (nbT xs (row (allN m) k) m t) ∧ OwnedR wr w1.heap.size (.slice A1 n1 c1) (rBk xs m k) ∧ Below w1.heap.size w1 wr) (fun i _ _ => K - (intOf i).toNat)
          case atStart => exact ⟨0, Nat.zero_le _, rfl, by rw [nbT, HP.out]; simp, unhide HO5, unhide HB5⟩
          case round =>
            obtain ⟨t, ht, rfl, rfl, hot, hbt⟩ := hrel
            have HOt := hide hot; have HBt := hide hbt; clear hot hbt
            have La := hide (((unhide I1).below (unhide HBt)).more (unhide HBt).size)
            obtain ⟨A9, n9, c9, hc9, i9⟩ := ((unhide HR).below (unhide HBt)).get hlt
            obtain ⟨A8, n8, c8, hc8, i8⟩ := (unhide Jl).get hlt
            have esame : A9 = Ab ∧ n9 = nb' ∧ c9 = cb := by
              obtain ⟨_, _, _, h1, _⟩ := (unhide HR).get hlt
              have e1 := ((unhide HBt).cell (p := ⟨b5, o5 + k, none⟩) (by obtain ⟨_, _, _, _, _, e, hB, _⟩ := (unhide HR).at_ k hlt; cases e; exact hB))
              have e2 := ((unhide HB).cell (p := ⟨b5, o5 + k, none⟩) (by obtain ⟨_, _, _, _, _, e, hB, _⟩ := (unhide HR).at_ k hlt; cases e; exact hB))
              rw [e1, ← e2, hcell] at hc9
              simp only [Option.some.injEq, Value.slice.injEq] at hc9
              exact ⟨hc9.1.symm, hc9.2.1.symm, hc9.2.2.symm⟩
            obtain ⟨rfl, rfl, rfl⟩ := esame
            have Lb := hide (i9.more (unhide HBt).size)
            clear hc9 hc8 i9 i8
            by_cases htK : t < K
            · obtain ⟨Ac, nc, cc, hcellc, hic⟩ := ((unhide HR).below (unhide HBt)).get htK
              have hcp := hide (allN_isP hm1 hm12 (row_in (l := allN m) (k := t) (by rw [hK.out]; exact htK)))
              have Lc := hide (hic.more (unhide HBt).size); clear hic
              rcases s1 : decide (xs = row (allN m) t)
              · rcases s2 : decide (row (allN m) k = row (allN m) t)
                · rcases u1 : unevR xs (row (allN m) t)
                  · have S1 := hide s1; have S2 := hide s2; have U1 := hide u1; clear s1 s2 u1
                    have HC := hide (show condC xs (row (allN m) k) (row (allN m) t) = false from by rw [condC, S1.out, S2.out, U1.out]; rfl)
                    have HN := hide (show nbT xs (row (allN m) k) m (t + 1) = nbT xs (row (allN m) k) m t from by rw [nbT_succ (by rw [hK.out]; exact htK), HC.out]; simp)
                    go_wp2_with fail
                    refine (same_is _ _ _ _ _ _ _ _ _ _ _ (unhide La) (unhide Lc) false (hide S1.out)).mono ?_
                    rintro e w6 ⟨rfl, b6'⟩
                    replace HBt := hide ((unhide HBt).trans (b6'.mono (unhide HBt).size))
                    replace HOt := hide ((unhide HOt).below b6')
                    replace La := hide (((unhide La).below b6').more b6'.size)
                    replace Lb := hide (((unhide Lb).below b6').more b6'.size)
                    replace Lc := hide (((unhide Lc).below b6').more b6'.size)
                    clear b6'
                    go_wp2_with fail
                    refine (same_is _ _ _ _ _ _ _ _ _ _ _ (unhide Lb) (unhide Lc) false (hide S2.out)).mono ?_
                    rintro e w7 ⟨rfl, b7'⟩
                    replace HBt := hide ((unhide HBt).trans (b7'.mono (unhide HBt).size))
                    replace HOt := hide ((unhide HOt).below b7')
                    replace La := hide (((unhide La).below b7').more b7'.size)
                    replace Lb := hide (((unhide Lb).below b7').more b7'.size)
                    replace Lc := hide (((unhide Lc).below b7').more b7'.size)
                    clear b7'
                    go_wp2_with fail
                    refine (unevP _ _ _ _ _ _ _ _ _ (unhide La) (unhide Lc) m hx hcp false (hide U1.out)).mono ?_
                    rintro e w8 ⟨rfl, b8'⟩
                    replace HBt := hide ((unhide HBt).trans (b8'.mono (unhide HBt).size))
                    replace HOt := hide ((unhide HOt).below b8')
                    replace La := hide (((unhide La).below b8').more b8'.size)
                    replace Lb := hide (((unhide Lb).below b8').more b8'.size)
                    replace Lc := hide (((unhide Lc).below b8').more b8'.size)
                    clear b8'
                    go_wp2_with fail
                    go_roundw
                    case rel => exact ⟨t + 1, by omega, by go_num, by rw [HN.out], unhide HOt, unhide HBt⟩
                    case measure => simp [intOf]; omega
                  · rcases u2 : unevR (row (allN m) t) (row (allN m) k)
                    · have S1 := hide s1; have S2 := hide s2; have U1 := hide u1; have U2 := hide u2; clear s1 s2 u1 u2
                      have HC := hide (show condC xs (row (allN m) k) (row (allN m) t) = false from by rw [condC, S1.out, S2.out, U1.out, U2.out]; rfl)
                      have HN := hide (show nbT xs (row (allN m) k) m (t + 1) = nbT xs (row (allN m) k) m t from by rw [nbT_succ (by rw [hK.out]; exact htK), HC.out]; simp)
                      go_wp2_with fail
                      refine (same_is _ _ _ _ _ _ _ _ _ _ _ (unhide La) (unhide Lc) false (hide S1.out)).mono ?_
                      rintro e w6 ⟨rfl, b6'⟩
                      replace HBt := hide ((unhide HBt).trans (b6'.mono (unhide HBt).size))
                      replace HOt := hide ((unhide HOt).below b6')
                      replace La := hide (((unhide La).below b6').more b6'.size)
                      replace Lb := hide (((unhide Lb).below b6').more b6'.size)
                      replace Lc := hide (((unhide Lc).below b6').more b6'.size)
                      clear b6'
                      go_wp2_with fail
                      refine (same_is _ _ _ _ _ _ _ _ _ _ _ (unhide Lb) (unhide Lc) false (hide S2.out)).mono ?_
                      rintro e w7 ⟨rfl, b7'⟩
                      replace HBt := hide ((unhide HBt).trans (b7'.mono (unhide HBt).size))
                      replace HOt := hide ((unhide HOt).below b7')
                      replace La := hide (((unhide La).below b7').more b7'.size)
                      replace Lb := hide (((unhide Lb).below b7').more b7'.size)
                      replace Lc := hide (((unhide Lc).below b7').more b7'.size)
                      clear b7'
                      go_wp2_with fail
                      refine (unevP _ _ _ _ _ _ _ _ _ (unhide La) (unhide Lc) m hx hcp true (hide U1.out)).mono ?_
                      rintro e w8 ⟨rfl, b8'⟩
                      replace HBt := hide ((unhide HBt).trans (b8'.mono (unhide HBt).size))
                      replace HOt := hide ((unhide HOt).below b8')
                      replace La := hide (((unhide La).below b8').more b8'.size)
                      replace Lb := hide (((unhide Lb).below b8').more b8'.size)
                      replace Lc := hide (((unhide Lc).below b8').more b8'.size)
                      clear b8'
                      go_wp2_with fail
                      refine (unevP _ _ _ _ _ _ _ _ _ (unhide Lc) (unhide Lb) m hcp hbp false (hide U2.out)).mono ?_
                      rintro e w9 ⟨rfl, b9'⟩
                      replace HBt := hide ((unhide HBt).trans (b9'.mono (unhide HBt).size))
                      replace HOt := hide ((unhide HOt).below b9')
                      replace La := hide (((unhide La).below b9').more b9'.size)
                      replace Lb := hide (((unhide Lb).below b9').more b9'.size)
                      replace Lc := hide (((unhide Lc).below b9').more b9'.size)
                      clear b9'
                      go_wp2_with fail
                      go_roundw
                      case rel => exact ⟨t + 1, by omega, by go_num, by rw [HN.out], unhide HOt, unhide HBt⟩
                      case measure => simp [intOf]; omega
                    · have S1 := hide s1; have S2 := hide s2; have U1 := hide u1; have U2 := hide u2; clear s1 s2 u1 u2
                      have HC := hide (show condC xs (row (allN m) k) (row (allN m) t) = true from by rw [condC, S1.out, S2.out, U1.out, U2.out]; rfl)
                      have HN := hide (show nbT xs (row (allN m) k) m (t + 1) = false from by rw [nbT_succ (by rw [hK.out]; exact htK), HC.out]; simp)
                      go_wp2_with fail
                      refine (same_is _ _ _ _ _ _ _ _ _ _ _ (unhide La) (unhide Lc) false (hide S1.out)).mono ?_
                      rintro e w6 ⟨rfl, b6'⟩
                      replace HBt := hide ((unhide HBt).trans (b6'.mono (unhide HBt).size))
                      replace HOt := hide ((unhide HOt).below b6')
                      replace La := hide (((unhide La).below b6').more b6'.size)
                      replace Lb := hide (((unhide Lb).below b6').more b6'.size)
                      replace Lc := hide (((unhide Lc).below b6').more b6'.size)
                      clear b6'
                      go_wp2_with fail
                      refine (same_is _ _ _ _ _ _ _ _ _ _ _ (unhide Lb) (unhide Lc) false (hide S2.out)).mono ?_
                      rintro e w7 ⟨rfl, b7'⟩
                      replace HBt := hide ((unhide HBt).trans (b7'.mono (unhide HBt).size))
                      replace HOt := hide ((unhide HOt).below b7')
                      replace La := hide (((unhide La).below b7').more b7'.size)
                      replace Lb := hide (((unhide Lb).below b7').more b7'.size)
                      replace Lc := hide (((unhide Lc).below b7').more b7'.size)
                      clear b7'
                      go_wp2_with fail
                      refine (unevP _ _ _ _ _ _ _ _ _ (unhide La) (unhide Lc) m hx hcp true (hide U1.out)).mono ?_
                      rintro e w8 ⟨rfl, b8'⟩
                      replace HBt := hide ((unhide HBt).trans (b8'.mono (unhide HBt).size))
                      replace HOt := hide ((unhide HOt).below b8')
                      replace La := hide (((unhide La).below b8').more b8'.size)
                      replace Lb := hide (((unhide Lb).below b8').more b8'.size)
                      replace Lc := hide (((unhide Lc).below b8').more b8'.size)
                      clear b8'
                      go_wp2_with fail
                      refine (unevP _ _ _ _ _ _ _ _ _ (unhide Lc) (unhide Lb) m hcp hbp true (hide U2.out)).mono ?_
                      rintro e w9 ⟨rfl, b9'⟩
                      replace HBt := hide ((unhide HBt).trans (b9'.mono (unhide HBt).size))
                      replace HOt := hide ((unhide HOt).below b9')
                      replace La := hide (((unhide La).below b9').more b9'.size)
                      replace Lb := hide (((unhide Lb).below b9').more b9'.size)
                      replace Lc := hide (((unhide Lc).below b9').more b9'.size)
                      clear b9'
                      go_wp2_with fail
                      go_roundw
                      case rel => exact ⟨t + 1, by omega, by go_num, by rw [HN.out], unhide HOt, unhide HBt⟩
                      case measure => simp [intOf]; omega
                · have S1 := hide s1; have S2 := hide s2; clear s1 s2
                  have HC := hide (show condC xs (row (allN m) k) (row (allN m) t) = false from by rw [condC, S1.out, S2.out]; rfl)
                  have HN := hide (show nbT xs (row (allN m) k) m (t + 1) = nbT xs (row (allN m) k) m t from by rw [nbT_succ (by rw [hK.out]; exact htK), HC.out]; simp)
                  go_wp2_with fail
                  refine (same_is _ _ _ _ _ _ _ _ _ _ _ (unhide La) (unhide Lc) false (hide S1.out)).mono ?_
                  rintro e w6 ⟨rfl, b6'⟩
                  replace HBt := hide ((unhide HBt).trans (b6'.mono (unhide HBt).size))
                  replace HOt := hide ((unhide HOt).below b6')
                  replace La := hide (((unhide La).below b6').more b6'.size)
                  replace Lb := hide (((unhide Lb).below b6').more b6'.size)
                  replace Lc := hide (((unhide Lc).below b6').more b6'.size)
                  clear b6'
                  go_wp2_with fail
                  refine (same_is _ _ _ _ _ _ _ _ _ _ _ (unhide Lb) (unhide Lc) true (hide S2.out)).mono ?_
                  rintro e w7 ⟨rfl, b7'⟩
                  replace HBt := hide ((unhide HBt).trans (b7'.mono (unhide HBt).size))
                  replace HOt := hide ((unhide HOt).below b7')
                  replace La := hide (((unhide La).below b7').more b7'.size)
                  replace Lb := hide (((unhide Lb).below b7').more b7'.size)
                  replace Lc := hide (((unhide Lc).below b7').more b7'.size)
                  clear b7'
                  go_wp2_with fail
                  go_roundw
                  case rel => exact ⟨t + 1, by omega, by go_num, by rw [HN.out], unhide HOt, unhide HBt⟩
                  case measure => simp [intOf]; omega
              · have S1 := hide s1; clear s1
                have HC := hide (show condC xs (row (allN m) k) (row (allN m) t) = false from by rw [condC, S1.out]; rfl)
                have HN := hide (show nbT xs (row (allN m) k) m (t + 1) = nbT xs (row (allN m) k) m t from by rw [nbT_succ (by rw [hK.out]; exact htK), HC.out]; simp)
                go_wp2_with fail
                refine (same_is _ _ _ _ _ _ _ _ _ _ _ (unhide La) (unhide Lc) true (hide S1.out)).mono ?_
                rintro e w6 ⟨rfl, b6'⟩
                replace HBt := hide ((unhide HBt).trans (b6'.mono (unhide HBt).size))
                replace HOt := hide ((unhide HOt).below b6')
                replace La := hide (((unhide La).below b6').more b6'.size)
                replace Lb := hide (((unhide Lb).below b6').more b6'.size)
                replace Lc := hide (((unhide Lc).below b6').more b6'.size)
                clear b6'
                go_wp2_with fail
                go_roundw
                case rel => exact ⟨t + 1, by omega, by go_num, by rw [HN.out], unhide HOt, unhide HBt⟩
                case measure => simp [intOf]; omega
            · obtain rfl : t = K := by omega
              have hall := nbT_all xs (row (allN m) k) m
              rw [hK.out] at hall
              rw [hall]
              have hsucc := rBk_succ (xs := xs) (m := m) (k := k) (by rw [hK.out]; exact hlt)
              clear hall
              rcases hq : nb xs (row (allN m) k) (allN m)
              · rw [hq] at hsucc
                have HS := hide hsucc; clear hsucc hq
                go_wp2_with fail
                go_roundw
                case rel => exact ⟨k + 1, A1, n1, c1, by omega, by go_num, rfl, by rw [HS.out]; simpa using unhide HOt, unhide HBt⟩
                case measure => simp [intOf]; omega
              · rw [hq, if_pos rfl] at hsucc
                have HS := hide hsucc; clear hsucc hq
                have hlen := hide (show (rBk xs m k).length ≤ 1000000 from by have h1 := List.length_filter_le (fun b => nb xs b (allN m)) ((allN m).take k); have h2 := List.length_take_le k (allN m); rw [rBk]; omega)
                go_wp2_with (at_builtin
                             refine wpList_appR (by rfl) (.tmp 56) (.tmp 58) (by rfl) (by rfl) (by rfl) (unhide HOt) (unhide Lb) (fun b off e => ⟨fun e2 => by have h1 := (unhide hbl) b off e; have h2 := ((unhide HOt).lt b e2.symm).1; omega, by have h1 := (unhide hbl) b off e; have h2 := (unhide HBt).size; omega⟩) (unhide hlen) (unhide HBt).size ?_
                             intro v3 w3 ho3 hb3
                             obtain ⟨A3, c3, e3, _⟩ := ho3.rows
                             have HO3 := hide ho3; have E3 := hide e3; have HB3 := hide ((unhide HBt).trans hb3)
                             clear ho3 hb3 e3)
                go_roundw
                case rel => exact ⟨k + 1, A3, _, c3, by omega, by go_num, E3.out, by rw [HS.out, ← E3.out]; exact unhide HO3, unhide HB3⟩
                case measure => simp [intOf]; omega
        · have HS := hide hs
          have HP := hide (show p0 xs (row (allN m) k) = false from by rw [p0, hu, hs]; rfl)
          clear hu hs
          go_wp2_with fail
          refine (unevP _ _ _ _ _ _ _ _ _ (unhide Ja) (unhide Jb) m hx hbp true HU).mono ?_
          rintro e w4 ⟨rfl, b4'⟩
          have HB4 := hide ((unhide HB).trans (b4'.mono (unhide HB).size))
          have HO4 := hide ((unhide HO).below b4')
          have Ka := hide (((unhide Ja).below b4').more b4'.size); have Kb := hide (((unhide Jb).below b4').more b4'.size)
          clear b4' HU
          go_wp2_with fail
          refine (same_is _ _ _ _ _ _ _ _ _ _ _ (unhide Ka) (unhide Kb) _ HS).mono ?_
          rintro e w5 ⟨rfl, b5'⟩
          have HB5 := hide ((unhide HB4).trans (b5'.mono (unhide HB4).size))
          have HO5 := hide ((unhide HO4).below b5')
          clear b5' HS Ka Kb HO4 HB4
          go_wp2_with fail
          go_loopw [30, 7] (fun i p wr => ∃ t : Nat, t ≤ K ∧ i = .int .i64 t ∧ p = .bool (nbT xs (row (allN m) k) m t) ∧ OwnedR wr w1.heap.size (.slice A1 n1 c1) (rBk xs m k) ∧ Below w1.heap.size w1 wr) (fun i _ _ => K - (intOf i).toNat)
          case atStart => exact ⟨0, Nat.zero_le _, rfl, by rw [nbT, HP.out]; simp, unhide HO5, unhide HB5⟩
          case round =>
            obtain ⟨t, ht, rfl, rfl, hot, hbt⟩ := hrel
            have HOt := hide hot; have HBt := hide hbt; clear hot hbt
            have La := hide (((unhide I1).below (unhide HBt)).more (unhide HBt).size)
            obtain ⟨A9, n9, c9, hc9, i9⟩ := ((unhide HR).below (unhide HBt)).get hlt
            obtain ⟨A8, n8, c8, hc8, i8⟩ := (unhide Jl).get hlt
            have esame : A9 = Ab ∧ n9 = nb' ∧ c9 = cb := by
              obtain ⟨_, _, _, h1, _⟩ := (unhide HR).get hlt
              have e1 := ((unhide HBt).cell (p := ⟨b5, o5 + k, none⟩) (by obtain ⟨_, _, _, _, _, e, hB, _⟩ := (unhide HR).at_ k hlt; cases e; exact hB))
              have e2 := ((unhide HB).cell (p := ⟨b5, o5 + k, none⟩) (by obtain ⟨_, _, _, _, _, e, hB, _⟩ := (unhide HR).at_ k hlt; cases e; exact hB))
              rw [e1, ← e2, hcell] at hc9
              simp only [Option.some.injEq, Value.slice.injEq] at hc9
              exact ⟨hc9.1.symm, hc9.2.1.symm, hc9.2.2.symm⟩
            obtain ⟨rfl, rfl, rfl⟩ := esame
            have Lb := hide (i9.more (unhide HBt).size)
            clear hc9 hc8 i9 i8
            by_cases htK : t < K
            · obtain ⟨Ac, nc, cc, hcellc, hic⟩ := ((unhide HR).below (unhide HBt)).get htK
              have hcp := hide (allN_isP hm1 hm12 (row_in (l := allN m) (k := t) (by rw [hK.out]; exact htK)))
              have Lc := hide (hic.more (unhide HBt).size); clear hic
              rcases s1 : decide (xs = row (allN m) t)
              · rcases s2 : decide (row (allN m) k = row (allN m) t)
                · rcases u1 : unevR xs (row (allN m) t)
                  · have S1 := hide s1; have S2 := hide s2; have U1 := hide u1; clear s1 s2 u1
                    have HC := hide (show condC xs (row (allN m) k) (row (allN m) t) = false from by rw [condC, S1.out, S2.out, U1.out]; rfl)
                    have HN := hide (show nbT xs (row (allN m) k) m (t + 1) = nbT xs (row (allN m) k) m t from by rw [nbT_succ (by rw [hK.out]; exact htK), HC.out]; simp)
                    go_wp2_with fail
                    refine (same_is _ _ _ _ _ _ _ _ _ _ _ (unhide La) (unhide Lc) false (hide S1.out)).mono ?_
                    rintro e w6 ⟨rfl, b6'⟩
                    replace HBt := hide ((unhide HBt).trans (b6'.mono (unhide HBt).size))
                    replace HOt := hide ((unhide HOt).below b6')
                    replace La := hide (((unhide La).below b6').more b6'.size)
                    replace Lb := hide (((unhide Lb).below b6').more b6'.size)
                    replace Lc := hide (((unhide Lc).below b6').more b6'.size)
                    clear b6'
                    go_wp2_with fail
                    refine (same_is _ _ _ _ _ _ _ _ _ _ _ (unhide Lb) (unhide Lc) false (hide S2.out)).mono ?_
                    rintro e w7 ⟨rfl, b7'⟩
                    replace HBt := hide ((unhide HBt).trans (b7'.mono (unhide HBt).size))
                    replace HOt := hide ((unhide HOt).below b7')
                    replace La := hide (((unhide La).below b7').more b7'.size)
                    replace Lb := hide (((unhide Lb).below b7').more b7'.size)
                    replace Lc := hide (((unhide Lc).below b7').more b7'.size)
                    clear b7'
                    go_wp2_with fail
                    refine (unevP _ _ _ _ _ _ _ _ _ (unhide La) (unhide Lc) m hx hcp false (hide U1.out)).mono ?_
                    rintro e w8 ⟨rfl, b8'⟩
                    replace HBt := hide ((unhide HBt).trans (b8'.mono (unhide HBt).size))
                    replace HOt := hide ((unhide HOt).below b8')
                    replace La := hide (((unhide La).below b8').more b8'.size)
                    replace Lb := hide (((unhide Lb).below b8').more b8'.size)
                    replace Lc := hide (((unhide Lc).below b8').more b8'.size)
                    clear b8'
                    go_wp2_with fail
                    go_roundw
                    case rel => exact ⟨t + 1, by omega, by go_num, by rw [HN.out], unhide HOt, unhide HBt⟩
                    case measure => simp [intOf]; omega
                  · rcases u2 : unevR (row (allN m) t) (row (allN m) k)
                    · have S1 := hide s1; have S2 := hide s2; have U1 := hide u1; have U2 := hide u2; clear s1 s2 u1 u2
                      have HC := hide (show condC xs (row (allN m) k) (row (allN m) t) = false from by rw [condC, S1.out, S2.out, U1.out, U2.out]; rfl)
                      have HN := hide (show nbT xs (row (allN m) k) m (t + 1) = nbT xs (row (allN m) k) m t from by rw [nbT_succ (by rw [hK.out]; exact htK), HC.out]; simp)
                      go_wp2_with fail
                      refine (same_is _ _ _ _ _ _ _ _ _ _ _ (unhide La) (unhide Lc) false (hide S1.out)).mono ?_
                      rintro e w6 ⟨rfl, b6'⟩
                      replace HBt := hide ((unhide HBt).trans (b6'.mono (unhide HBt).size))
                      replace HOt := hide ((unhide HOt).below b6')
                      replace La := hide (((unhide La).below b6').more b6'.size)
                      replace Lb := hide (((unhide Lb).below b6').more b6'.size)
                      replace Lc := hide (((unhide Lc).below b6').more b6'.size)
                      clear b6'
                      go_wp2_with fail
                      refine (same_is _ _ _ _ _ _ _ _ _ _ _ (unhide Lb) (unhide Lc) false (hide S2.out)).mono ?_
                      rintro e w7 ⟨rfl, b7'⟩
                      replace HBt := hide ((unhide HBt).trans (b7'.mono (unhide HBt).size))
                      replace HOt := hide ((unhide HOt).below b7')
                      replace La := hide (((unhide La).below b7').more b7'.size)
                      replace Lb := hide (((unhide Lb).below b7').more b7'.size)
                      replace Lc := hide (((unhide Lc).below b7').more b7'.size)
                      clear b7'
                      go_wp2_with fail
                      refine (unevP _ _ _ _ _ _ _ _ _ (unhide La) (unhide Lc) m hx hcp true (hide U1.out)).mono ?_
                      rintro e w8 ⟨rfl, b8'⟩
                      replace HBt := hide ((unhide HBt).trans (b8'.mono (unhide HBt).size))
                      replace HOt := hide ((unhide HOt).below b8')
                      replace La := hide (((unhide La).below b8').more b8'.size)
                      replace Lb := hide (((unhide Lb).below b8').more b8'.size)
                      replace Lc := hide (((unhide Lc).below b8').more b8'.size)
                      clear b8'
                      go_wp2_with fail
                      refine (unevP _ _ _ _ _ _ _ _ _ (unhide Lc) (unhide Lb) m hcp hbp false (hide U2.out)).mono ?_
                      rintro e w9 ⟨rfl, b9'⟩
                      replace HBt := hide ((unhide HBt).trans (b9'.mono (unhide HBt).size))
                      replace HOt := hide ((unhide HOt).below b9')
                      replace La := hide (((unhide La).below b9').more b9'.size)
                      replace Lb := hide (((unhide Lb).below b9').more b9'.size)
                      replace Lc := hide (((unhide Lc).below b9').more b9'.size)
                      clear b9'
                      go_wp2_with fail
                      go_roundw
                      case rel => exact ⟨t + 1, by omega, by go_num, by rw [HN.out], unhide HOt, unhide HBt⟩
                      case measure => simp [intOf]; omega
                    · have S1 := hide s1; have S2 := hide s2; have U1 := hide u1; have U2 := hide u2; clear s1 s2 u1 u2
                      have HC := hide (show condC xs (row (allN m) k) (row (allN m) t) = true from by rw [condC, S1.out, S2.out, U1.out, U2.out]; rfl)
                      have HN := hide (show nbT xs (row (allN m) k) m (t + 1) = false from by rw [nbT_succ (by rw [hK.out]; exact htK), HC.out]; simp)
                      go_wp2_with fail
                      refine (same_is _ _ _ _ _ _ _ _ _ _ _ (unhide La) (unhide Lc) false (hide S1.out)).mono ?_
                      rintro e w6 ⟨rfl, b6'⟩
                      replace HBt := hide ((unhide HBt).trans (b6'.mono (unhide HBt).size))
                      replace HOt := hide ((unhide HOt).below b6')
                      replace La := hide (((unhide La).below b6').more b6'.size)
                      replace Lb := hide (((unhide Lb).below b6').more b6'.size)
                      replace Lc := hide (((unhide Lc).below b6').more b6'.size)
                      clear b6'
                      go_wp2_with fail
                      refine (same_is _ _ _ _ _ _ _ _ _ _ _ (unhide Lb) (unhide Lc) false (hide S2.out)).mono ?_
                      rintro e w7 ⟨rfl, b7'⟩
                      replace HBt := hide ((unhide HBt).trans (b7'.mono (unhide HBt).size))
                      replace HOt := hide ((unhide HOt).below b7')
                      replace La := hide (((unhide La).below b7').more b7'.size)
                      replace Lb := hide (((unhide Lb).below b7').more b7'.size)
                      replace Lc := hide (((unhide Lc).below b7').more b7'.size)
                      clear b7'
                      go_wp2_with fail
                      refine (unevP _ _ _ _ _ _ _ _ _ (unhide La) (unhide Lc) m hx hcp true (hide U1.out)).mono ?_
                      rintro e w8 ⟨rfl, b8'⟩
                      replace HBt := hide ((unhide HBt).trans (b8'.mono (unhide HBt).size))
                      replace HOt := hide ((unhide HOt).below b8')
                      replace La := hide (((unhide La).below b8').more b8'.size)
                      replace Lb := hide (((unhide Lb).below b8').more b8'.size)
                      replace Lc := hide (((unhide Lc).below b8').more b8'.size)
                      clear b8'
                      go_wp2_with fail
                      refine (unevP _ _ _ _ _ _ _ _ _ (unhide Lc) (unhide Lb) m hcp hbp true (hide U2.out)).mono ?_
                      rintro e w9 ⟨rfl, b9'⟩
                      replace HBt := hide ((unhide HBt).trans (b9'.mono (unhide HBt).size))
                      replace HOt := hide ((unhide HOt).below b9')
                      replace La := hide (((unhide La).below b9').more b9'.size)
                      replace Lb := hide (((unhide Lb).below b9').more b9'.size)
                      replace Lc := hide (((unhide Lc).below b9').more b9'.size)
                      clear b9'
                      go_wp2_with fail
                      go_roundw
                      case rel => exact ⟨t + 1, by omega, by go_num, by rw [HN.out], unhide HOt, unhide HBt⟩
                      case measure => simp [intOf]; omega
                · have S1 := hide s1; have S2 := hide s2; clear s1 s2
                  have HC := hide (show condC xs (row (allN m) k) (row (allN m) t) = false from by rw [condC, S1.out, S2.out]; rfl)
                  have HN := hide (show nbT xs (row (allN m) k) m (t + 1) = nbT xs (row (allN m) k) m t from by rw [nbT_succ (by rw [hK.out]; exact htK), HC.out]; simp)
                  go_wp2_with fail
                  refine (same_is _ _ _ _ _ _ _ _ _ _ _ (unhide La) (unhide Lc) false (hide S1.out)).mono ?_
                  rintro e w6 ⟨rfl, b6'⟩
                  replace HBt := hide ((unhide HBt).trans (b6'.mono (unhide HBt).size))
                  replace HOt := hide ((unhide HOt).below b6')
                  replace La := hide (((unhide La).below b6').more b6'.size)
                  replace Lb := hide (((unhide Lb).below b6').more b6'.size)
                  replace Lc := hide (((unhide Lc).below b6').more b6'.size)
                  clear b6'
                  go_wp2_with fail
                  refine (same_is _ _ _ _ _ _ _ _ _ _ _ (unhide Lb) (unhide Lc) true (hide S2.out)).mono ?_
                  rintro e w7 ⟨rfl, b7'⟩
                  replace HBt := hide ((unhide HBt).trans (b7'.mono (unhide HBt).size))
                  replace HOt := hide ((unhide HOt).below b7')
                  replace La := hide (((unhide La).below b7').more b7'.size)
                  replace Lb := hide (((unhide Lb).below b7').more b7'.size)
                  replace Lc := hide (((unhide Lc).below b7').more b7'.size)
                  clear b7'
                  go_wp2_with fail
                  go_roundw
                  case rel => exact ⟨t + 1, by omega, by go_num, by rw [HN.out], unhide HOt, unhide HBt⟩
                  case measure => simp [intOf]; omega
              · have S1 := hide s1; clear s1
                have HC := hide (show condC xs (row (allN m) k) (row (allN m) t) = false from by rw [condC, S1.out]; rfl)
                have HN := hide (show nbT xs (row (allN m) k) m (t + 1) = nbT xs (row (allN m) k) m t from by rw [nbT_succ (by rw [hK.out]; exact htK), HC.out]; simp)
                go_wp2_with fail
                refine (same_is _ _ _ _ _ _ _ _ _ _ _ (unhide La) (unhide Lc) true (hide S1.out)).mono ?_
                rintro e w6 ⟨rfl, b6'⟩
                replace HBt := hide ((unhide HBt).trans (b6'.mono (unhide HBt).size))
                replace HOt := hide ((unhide HOt).below b6')
                replace La := hide (((unhide La).below b6').more b6'.size)
                replace Lb := hide (((unhide Lb).below b6').more b6'.size)
                replace Lc := hide (((unhide Lc).below b6').more b6'.size)
                clear b6'
                go_wp2_with fail
                go_roundw
                case rel => exact ⟨t + 1, by omega, by go_num, by rw [HN.out], unhide HOt, unhide HBt⟩
                case measure => simp [intOf]; omega
            · obtain rfl : t = K := by omega
              have hall := nbT_all xs (row (allN m) k) m
              rw [hK.out] at hall
              rw [hall]
              have hsucc := rBk_succ (xs := xs) (m := m) (k := k) (by rw [hK.out]; exact hlt)
              clear hall
              rcases hq : nb xs (row (allN m) k) (allN m)
              · rw [hq] at hsucc
                have HS := hide hsucc; clear hsucc hq
                go_wp2_with fail
                go_roundw
                case rel => exact ⟨k + 1, A1, n1, c1, by omega, by go_num, rfl, by rw [HS.out]; simpa using unhide HOt, unhide HBt⟩
                case measure => simp [intOf]; omega
              · rw [hq, if_pos rfl] at hsucc
                have HS := hide hsucc; clear hsucc hq
                have hlen := hide (show (rBk xs m k).length ≤ 1000000 from by have h1 := List.length_filter_le (fun b => nb xs b (allN m)) ((allN m).take k); have h2 := List.length_take_le k (allN m); rw [rBk]; omega)
                go_wp2_with (at_builtin
                             refine wpList_appR (by rfl) (.tmp 56) (.tmp 58) (by rfl) (by rfl) (by rfl) (unhide HOt) (unhide Lb) (fun b off e => ⟨fun e2 => by have h1 := (unhide hbl) b off e; have h2 := ((unhide HOt).lt b e2.symm).1; omega, by have h1 := (unhide hbl) b off e; have h2 := (unhide HBt).size; omega⟩) (unhide hlen) (unhide HBt).size ?_
                             intro v3 w3 ho3 hb3
                             obtain ⟨A3, c3, e3, _⟩ := ho3.rows
                             have HO3 := hide ho3; have E3 := hide e3; have HB3 := hide ((unhide HBt).trans hb3)
                             clear ho3 hb3 e3)
                go_roundw
                case rel => exact ⟨k + 1, A3, _, c3, by omega, by go_num, E3.out, by rw [HS.out, ← E3.out]; exact unhide HO3, unhide HB3⟩
                case measure => simp [intOf]; omega
    · obtain rfl : k = K := by omega
      clear ho
      go_wp2_with fail
      go_ret
      obtain ⟨A4, n4, c4, e4, hr⟩ := (unhide HO).to
      cases e4
      rw [rBk, List.take_of_length_le (by rw [hK.out]; exact Nat.le_refl _)] at hr
      exact ⟨_, _, _, rfl, hr, (unhide HB1).trans ((unhide HB).mono (unhide HB1).size)⟩
end Go.Proofs.Ytmpdalcdkibgpaa
