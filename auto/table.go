package auto

import "tollgate/api"

// at is a place of the table.
type at struct{ state, event int }

// entry is what happens there.
type entry struct {
	next int
	does []int
}

// table tells the part of the table in which an event stands. Where nothing happens, as at a state or an event that is none, it has no entry. It is made anew for each who asks: the lists in it are given away.
func table(event int) map[at]entry {
	switch event {
	case api.Up, api.Down, api.Open, api.Close:
		return wanted()
	case api.ToPlus, api.ToMinus:
		return waited()
	case api.RcrPlus, api.RcrMinus:
		return asked()
	case api.Rca, api.Rcn:
		return answered()
	case api.Rtr, api.Rta:
		return ended()
	case api.Ruc, api.RxjPlus, api.RxjMinus, api.Rxr:
		return rejected()
	}
	return nil
}

// wanted has what this side wants, and what the layer below does.
func wanted() map[at]entry {
	return map[at]entry{
		{api.Initial, api.Up}:  {api.Closed, nil},
		{api.Starting, api.Up}: {api.ReqSent, []int{api.Irc, api.Scr}},

		{api.Closed, api.Down}:   {api.Initial, nil},
		{api.Stopped, api.Down}:  {api.Starting, []int{api.Tls}},
		{api.Closing, api.Down}:  {api.Initial, nil},
		{api.Stopping, api.Down}: {api.Starting, nil},
		{api.ReqSent, api.Down}:  {api.Starting, nil},
		{api.AckRcvd, api.Down}:  {api.Starting, nil},
		{api.AckSent, api.Down}:  {api.Starting, nil},
		{api.Opened, api.Down}:   {api.Starting, []int{api.Tld}},

		{api.Initial, api.Open}: {api.Starting, []int{api.Tls}},
		{api.Closed, api.Open}:  {api.ReqSent, []int{api.Irc, api.Scr}},
		{api.Closing, api.Open}: {api.Stopping, nil},

		{api.Starting, api.Close}: {api.Initial, []int{api.Tlf}},
		{api.Stopped, api.Close}:  {api.Closed, nil},
		{api.Stopping, api.Close}: {api.Closing, nil},
		{api.ReqSent, api.Close}:  {api.Closing, []int{api.Irc, api.Str}},
		{api.AckRcvd, api.Close}:  {api.Closing, []int{api.Irc, api.Str}},
		{api.AckSent, api.Close}:  {api.Closing, []int{api.Irc, api.Str}},
		{api.Opened, api.Close}:   {api.Closing, []int{api.Tld, api.Irc, api.Str}},
	}
}

// waited has the ends of a wait.
func waited() map[at]entry {
	return map[at]entry{
		{api.Closing, api.ToPlus}:  {api.Closing, []int{api.Str}},
		{api.Stopping, api.ToPlus}: {api.Stopping, []int{api.Str}},
		{api.ReqSent, api.ToPlus}:  {api.ReqSent, []int{api.Scr}},
		{api.AckRcvd, api.ToPlus}:  {api.ReqSent, []int{api.Scr}},
		{api.AckSent, api.ToPlus}:  {api.AckSent, []int{api.Scr}},

		{api.Closing, api.ToMinus}:  {api.Closed, []int{api.Tlf}},
		{api.Stopping, api.ToMinus}: {api.Stopped, []int{api.Tlf}},
		{api.ReqSent, api.ToMinus}:  {api.Stopped, []int{api.Tlf}},
		{api.AckRcvd, api.ToMinus}:  {api.Stopped, []int{api.Tlf}},
		{api.AckSent, api.ToMinus}:  {api.Stopped, []int{api.Tlf}},
	}
}

// asked has the other side's requests.
func asked() map[at]entry {
	return map[at]entry{
		{api.Closed, api.RcrPlus}:  {api.Closed, []int{api.Sta}},
		{api.Stopped, api.RcrPlus}: {api.AckSent, []int{api.Irc, api.Scr, api.Sca}},
		{api.ReqSent, api.RcrPlus}: {api.AckSent, []int{api.Sca}},
		{api.AckRcvd, api.RcrPlus}: {api.Opened, []int{api.Sca, api.Tlu}},
		{api.AckSent, api.RcrPlus}: {api.AckSent, []int{api.Sca}},
		{api.Opened, api.RcrPlus}:  {api.AckSent, []int{api.Tld, api.Scr, api.Sca}},

		{api.Closed, api.RcrMinus}:  {api.Closed, []int{api.Sta}},
		{api.Stopped, api.RcrMinus}: {api.ReqSent, []int{api.Irc, api.Scr, api.Scn}},
		{api.ReqSent, api.RcrMinus}: {api.ReqSent, []int{api.Scn}},
		{api.AckRcvd, api.RcrMinus}: {api.AckRcvd, []int{api.Scn}},
		{api.AckSent, api.RcrMinus}: {api.ReqSent, []int{api.Scn}},
		{api.Opened, api.RcrMinus}:  {api.ReqSent, []int{api.Tld, api.Scr, api.Scn}},
	}
}

// answered has the other side's answers to requests.
func answered() map[at]entry {
	return map[at]entry{
		{api.Closed, api.Rca}:  {api.Closed, []int{api.Sta}},
		{api.Stopped, api.Rca}: {api.Stopped, []int{api.Sta}},
		{api.ReqSent, api.Rca}: {api.AckRcvd, []int{api.Irc}},
		{api.AckRcvd, api.Rca}: {api.ReqSent, []int{api.Scr}},
		{api.AckSent, api.Rca}: {api.Opened, []int{api.Irc, api.Tlu}},
		{api.Opened, api.Rca}:  {api.ReqSent, []int{api.Tld, api.Scr}},

		{api.Closed, api.Rcn}:  {api.Closed, []int{api.Sta}},
		{api.Stopped, api.Rcn}: {api.Stopped, []int{api.Sta}},
		{api.ReqSent, api.Rcn}: {api.ReqSent, []int{api.Irc, api.Scr}},
		{api.AckRcvd, api.Rcn}: {api.ReqSent, []int{api.Scr}},
		{api.AckSent, api.Rcn}: {api.AckSent, []int{api.Irc, api.Scr}},
		{api.Opened, api.Rcn}:  {api.ReqSent, []int{api.Tld, api.Scr}},
	}
}

// ended has what the other side says of the end.
func ended() map[at]entry {
	return map[at]entry{
		{api.Closed, api.Rtr}:   {api.Closed, []int{api.Sta}},
		{api.Stopped, api.Rtr}:  {api.Stopped, []int{api.Sta}},
		{api.Closing, api.Rtr}:  {api.Closing, []int{api.Sta}},
		{api.Stopping, api.Rtr}: {api.Stopping, []int{api.Sta}},
		{api.ReqSent, api.Rtr}:  {api.ReqSent, []int{api.Sta}},
		{api.AckRcvd, api.Rtr}:  {api.ReqSent, []int{api.Sta}},
		{api.AckSent, api.Rtr}:  {api.ReqSent, []int{api.Sta}},
		{api.Opened, api.Rtr}:   {api.Stopping, []int{api.Tld, api.Zrc, api.Sta}},

		{api.Closing, api.Rta}:  {api.Closed, []int{api.Tlf}},
		{api.Stopping, api.Rta}: {api.Stopped, []int{api.Tlf}},
		{api.AckRcvd, api.Rta}:  {api.ReqSent, nil},
		{api.Opened, api.Rta}:   {api.ReqSent, []int{api.Tld, api.Scr}},
	}
}

// rejected has codes that one of the sides does not know, and echoes.
func rejected() map[at]entry {
	return map[at]entry{
		{api.Closed, api.Ruc}:   {api.Closed, []int{api.Scj}},
		{api.Stopped, api.Ruc}:  {api.Stopped, []int{api.Scj}},
		{api.Closing, api.Ruc}:  {api.Closing, []int{api.Scj}},
		{api.Stopping, api.Ruc}: {api.Stopping, []int{api.Scj}},
		{api.ReqSent, api.Ruc}:  {api.ReqSent, []int{api.Scj}},
		{api.AckRcvd, api.Ruc}:  {api.AckRcvd, []int{api.Scj}},
		{api.AckSent, api.Ruc}:  {api.AckSent, []int{api.Scj}},
		{api.Opened, api.Ruc}:   {api.Opened, []int{api.Scj}},

		{api.AckRcvd, api.RxjPlus}: {api.ReqSent, nil},

		{api.Closed, api.RxjMinus}:   {api.Closed, []int{api.Tlf}},
		{api.Stopped, api.RxjMinus}:  {api.Stopped, []int{api.Tlf}},
		{api.Closing, api.RxjMinus}:  {api.Closed, []int{api.Tlf}},
		{api.Stopping, api.RxjMinus}: {api.Stopped, []int{api.Tlf}},
		{api.ReqSent, api.RxjMinus}:  {api.Stopped, []int{api.Tlf}},
		{api.AckRcvd, api.RxjMinus}:  {api.Stopped, []int{api.Tlf}},
		{api.AckSent, api.RxjMinus}:  {api.Stopped, []int{api.Tlf}},
		{api.Opened, api.RxjMinus}:   {api.Stopping, []int{api.Tld, api.Irc, api.Str}},

		{api.Opened, api.Rxr}: {api.Opened, []int{api.Ser}},
	}
}
