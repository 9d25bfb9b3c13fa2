package script

import (
	"strconv"

	"daybook/api"
	"daybook/disk"
	"daybook/ledger"
)

// player is what a script's commands work on.
type player struct {
	disk     *disk.Disk     // nil: there is none
	ledger   *ledger.Ledger // likewise
	settings api.Settings
}

// way is how a command is played.
type way func(*player, api.Command) answer

// play gives the answer to a command, or to the first line.
func (p *player) play(c api.Command) answer {
	if c.Word == firstWord {
		return p.begin(c)
	}
	if do := onLedger(c.Word); do != nil {
		if p.ledger == nil {
			return closed()
		}
		return do(p, c)
	}
	if p.disk == nil {
		return closed()
	}
	return onDisk(c.Word)(p, c)
}

// onLedger is the way of a command that works on the ledger; nil of the others.
func onLedger(word string) way {
	switch word {
	case "submit":
		return (*player).submit
	case "len":
		return (*player).length
	case "event":
		return (*player).event
	case "trial":
		return (*player).trial
	case "rollup":
		return (*player).rollup
	case "daily":
		return (*player).daily
	case "aged":
		return (*player).aged
	case "open":
		return (*player).open
	case "accounts":
		return (*player).accounts
	case "left":
		return (*player).left
	case "query":
		return (*player).query
	case "export":
		return (*player).export
	case importWord:
		return (*player).importJournal
	case sheetWord:
		return (*player).sheet
	case "snapshot":
		return (*player).snapshot
	case "trim":
		return (*player).trim
	case "rebuild":
		return (*player).rebuild
	case "status":
		return (*player).status
	}
	return nil
}

// onDisk is the way of a command that works on the disk.
func onDisk(word string) way {
	switch word {
	case "fuse":
		return (*player).fuse
	case "free":
		return (*player).free
	case "files":
		return (*player).files
	case "crash":
		return (*player).crash
	case "reopen":
		return (*player).reopen
	case "lose":
		return (*player).lose
	}
	return (*player).turn
}

// begin makes the disk and opens the ledger on it, as the first line says.
func (p *player) begin(c api.Command) answer {
	p.settings = api.Settings{Segment: numberAt(c, 1), Digits: numberAt(c, 2)}
	made, why := disk.New(numberAt(c, 0))
	if why != api.OK {
		return failed(why)
	}
	p.disk = made
	return p.reopen(c)
}

// numberAt is the number that stands at a place of a command's words.
func numberAt(c api.Command, i int) int {
	n, _ := strconv.Atoi(c.Args[i])
	return n
}
